/- Package point: squareOfX, read, write as contracts. -/
import Derived.Test.YtajehiidpecknaaGreatDoorFieT
import Derived.Test.YtajehiidpecknaaGreatDoorPoiE
import Derived.Test.YtajehiidpecknaaGreatDoorPoiM
set_option linter.unusedSimpArgs false
set_option linter.unusedVariables false
namespace Go.Proofs.YtajehiidpecknaaGreatDoor
open Go Go.RowKit
def gSqF:List Value→Option (List Prop × Value)
 | [A]=>some ([IsB A],.tuple #[bv (sqv (aj A)),.int .i64 (sqe (aj A))])
 | _=>none
theorem bE (n:Nat) (e:Int):flat (.tuple #[bv n,.int .i64 e])=true:=by
 show ([bv n,.int .i64 e].all flat2)=true
 have:flat2 (bv n)=true:=aC n
 rw [List.all_cons,this];rfl
theorem oM (p:P4) (e:Int):flat (.tuple #[pv p,.int .i64 e])=true:=by
 show ([pv p,.int .i64 e].all flat2)=true
 have:flat2 (pv p)=true:=aY p
 rw [List.all_cons,this];rfl
theorem Ey {X:Cx} (hX:X.Ok Tryz.prog):(X.pure 111 gSqF).Ok Tryz.prog:=by
 refine aA hX Tryz.func111 (by kernel_rfl) (by kernel_rfl) ?_
 intro args ps v ha hg hp
 unfold gSqF at hg
 split at hg
 ·rename_i A
  simp only [qG,qH] at hg
  obtain ⟨rfl,rfl⟩:=hg
  have hA:=hp _ (List.mem_singleton.2 rfl)
  refine ⟨.inl (bE _ _),fun w => ?_⟩
  have h:=BJ (aj A) (aQ hA) w
  rw [← (show A=bv (aj A) from hA)] at h
  exact h
 ·simp at hg
def F6:Cx:=F5.pure 111 gSqF
theorem lu:F6.Ok Tryz.prog:=Ey nj
def sxN (y:Nat):Nat:=fml (fsb (fml y y) 1) (fiv (fad 1 (fml DN' (fml y y))))
def sqV (y:Nat):Value:=ML (bv y) (bv y)
def dvV (y:Nat):Value:=AD (bv 1) (ML (bv DN') (sqV y))
theorem Jj (y:Nat):sfunG Tryz.prog F6 M0 60 Tryz.f112 (ag Tryz.f112) [bv y]=some ([IB (bv y) (bv y),IB (bv DN') (sqV y),IB (bv 1) (ML (bv DN') (sqV y)),IB (sqV y) (bv 1),IsB (dvV y),IB (SB (sqV y) (bv 1)) (IV (dvV y))],ML (SB (sqV y) (bv 1)) (IV (dvV y))):=by kernel_rfl
theorem Il {y:Nat} (h:y<RN):ML (SB (sqV y) (bv 1)) (IV (dvV y))=bv (sxN y):=by
 have h1:sqV y=bv (fml y y):=dj _ _ h h
 have h2:dvV y=bv (fad 1 (fml DN' (fml y y))):=by unfold dvV;rw [h1,dj _ _ (by decide) (fJ _ _),dR _ _ (by decide) (fJ _ _)]
 rw [h1,h2,fk _ _ (fJ _ _) (by decide),xY _ (lJ _ _),dj _ _ (mz _ _) (Ji _)]
 rfl
def IX:List Value→Option (List Prop × Value)
 | [A]=>some ([IsB A],bv (sxN (aj A)))
 | _=>none
theorem ER {X:Cx} (hX:X.Ok Tryz.prog) (hc:bp M0 X.gl=true):(X.var M0 112 IX).Ok Tryz.prog:=by
 refine bW hX aO hc Tryz.func112 (by kernel_rfl) (by kernel_rfl) ?_
 intro args ps v ha hg hp
 unfold IX at hg
 split at hg
 ·rename_i A
  simp only [qG,qH] at hg
  obtain ⟨rfl,rfl⟩:=hg
  have hA:=hp _ (List.mem_singleton.2 rfl)
  refine ⟨.inl (aC _),fun w hw => ?_⟩
  have run:=Jj (aj A)
  rw [Il (aQ hA)] at run
  have h:=aD lu mixed aO (by kernel_rfl) Tryz.func112 (by kernel_rfl) run (by
   intro p hp
   simp only [List.mem_cons,List.not_mem_nil,or_false] at hp
   rcases hp with rfl | rfl | rfl | rfl | rfl | rfl <;> first | exact ib | exact aI _) (by simp [aC]) (.inl (aC _)) w hw
  rw [← (show A=bv (aj A) from hA)] at h
  exact h
 ·simp at hg
def F7:Cx:=F6.var M0 112 IX
theorem Ah:F7.Ok Tryz.prog:=ER lu (by kernel_rfl)
def TT:Nat:=57896044618658097711785492504343953926634992332820282019728792003956564819968
theorem jB:TT=256 ^ 31*128:=by decide
def dH (n:Nat):Value := .agg ((bl n).take 31 ++ [Value.int .u8 (bits .andNot .u8 (by8 n 31) 128)]).toArray
def Ju (n:Nat):Value := .agg ((bl n).take 31 ++ [Value.int .u8 (bits .or .u8 (by8 n 31) 128)]).toArray
theorem iG : ∀ y:Fin 256,bits .andNot .u8 ((y.val:Nat):Int) 128=((y.val % 128:Nat):Int)∧(!(bits .and .u8 ((y.val:Nat):Int) 128 == 0))=decide (128≤y.val)∧bits .or .u8 ((y.val:Nat):Int) 128=((y.val % 128+128:Nat):Int)∧(bits .and .u8 ((y.val:Nat):Int) 1 == 1)=decide (y.val % 2=1):=by decide +kernel
theorem nx (n:Nat):bl n=(bl n).take 31 ++ [.int .u8 (by8 n 31)]:=by
 unfold bl
 rw [show (32:Nat)=31+1 from rfl,List.range_succ,List.map_append,List.take_left' (by simp)]
 rfl
theorem jS {m n:Nat} (h:m % 256 ^ 31=n % 256 ^ 31):(bl m).take 31=(bl n).take 31:=by
 unfold bl
 rw [←List.map_take,←List.map_take,List.take_range]
 refine List.map_congr_left fun i hi => ?_
 have hi:i<31:=by simpa using hi
 rw [←jQ m 31 i hi,←jQ n 31 i hi,h]
theorem lT (n:Nat) (h:n<RN):dH n=bv (n % TT):=by
 unfold dH bv br
 rw [nx (n % TT)]
 have hb:n/256 ^ 31 % 256<256:=Nat.mod_lt _ (by decide)
 have e1:by8 n 31=((n/256 ^ 31 % 256:Nat):Int):=rfl
 have o:=(iG ⟨n/256 ^ 31 % 256,hb⟩).1
 simp only at o
 have e2:by8 (n % TT) 31=((n/256 ^ 31 % 256 % 128:Nat):Int):=by
  unfold by8
  rw [jB,Nat.mod_mul_right_div_self]
  congr 1
  omega
 rw [e1,o,e2,jS (m:=n % TT) (n:=n) (by rw [jB,Nat.mod_mul_right_mod])]
theorem qT (n:Nat) (h:n<TT):Ju n=bv (n+TT):=by
 unfold Ju bv br
 rw [nx (n+TT)]
 have hb:n/256 ^ 31 % 256<256:=Nat.mod_lt _ (by decide)
 have e1:by8 n 31=((n/256 ^ 31 % 256:Nat):Int):=rfl
 have o:=(iG ⟨n/256 ^ 31 % 256,hb⟩).2.2.1
 simp only at o
 have hl:n/256 ^ 31<128:=by rw [Nat.div_lt_iff_lt_mul (by decide),Nat.mul_comm,←jB];exact h
 have e2:by8 (n+TT) 31=((n/256 ^ 31 % 256 % 128+128:Nat):Int):=by
  unfold by8
  rw [jB,Nat.add_mul_div_left _ _ (by decide)]
  congr 1
  omega
 rw [e1,o,e2,jS (m:=n+TT) (n:=n) (by rw [jB,Nat.add_mul_mod_self_left])]
def ivV (p:P4):Value:=IV (bv p.z)
def wx (p:P4):Nat:=fml p.x (fiv p.z)
def wy (p:P4):Nat:=fml p.y (fiv p.z)
def wxS (p:P4):Nat:=fml (aj (bv p.x)) (aj (ivV p))
def wyS (p:P4):Nat:=fml (aj (bv p.y)) (aj (ivV p))
theorem ET (p:P4):sfunG Tryz.prog (F7.tell [(20,false)]) M0 60 Tryz.f51 (ag Tryz.f51) [pv p]=some ([IsB (bv p.z),IB (bv p.x) (ivV p),IB (bv p.y) (ivV p),(bits .and .u8 (by8 (wxS p) 0) 1 == 1)=false],bv (wyS p)):=by kernel_rfl
theorem Ez (p:P4):sfunG Tryz.prog (F7.tell [(20,true)]) M0 60 Tryz.f51 (ag Tryz.f51) [pv p]=some ([IsB (bv p.z),IB (bv p.x) (ivV p),IB (bv p.y) (ivV p),(bits .and .u8 (by8 (wxS p) 0) 1 == 1)=true],Ju (wyS p)):=by kernel_rfl
def wrN (p:P4):Nat:=wy p+wx p % 2*TT
theorem iC:pp<TT:=by decide
theorem yY {p:P4} (lp:p.ok) (w:World) (hw:Glo M0 w):Calls Tryz.prog 51 #[pv p] w fun e w'=>e = .returned (bv (wrN p))∧Below w.heap.size w w':=by
 have e1:ivV p=bv (fiv p.z):=xY _ lp.z
 have e2:wxS p=wx p:=by unfold wxS wx;rw [e1,au lp.x,au (Ji _)]
 have e3:wyS p=wy p:=by unfold wyS wy;rw [e1,au lp.y,au (Ji _)]
 have hb:wx p/256 ^ 0 % 256<256:=Nat.mod_lt _ (by decide)
 have o:=(iG ⟨wx p/256 ^ 0 % 256,hb⟩).2.2.2
 simp only at o
 have o:(bits .and .u8 (by8 (wx p) 0) 1 == 1)=decide (wx p % 2=1):=by
  show (bits .and .u8 ((wx p/256 ^ 0 % 256:Nat):Int) 1 == 1)=_
  rw [o,decide_eq_decide,Nat.pow_zero,Nat.div_one,Nat.mod_mod_of_dvd _ (by decide)]
 have hwy:wy p<TT:=Nat.lt_trans (fM _ _) iC
 have r0:=ET p
 have r1:=Ez p
 rw [e2,e3,e1] at r0 r1
 rw [o] at r0 r1
 by_cases h:wx p % 2=1
 ·have k:=aD (Cx.tell_ok Ah _) mixed aO (by kernel_rfl) Tryz.func51 (by kernel_rfl) r1 (by
   intro p hp
   simp only [List.mem_cons,List.not_mem_nil,or_false] at hp
   rcases hp with rfl | rfl | rfl | rfl
   ·exact aI _
   ·exact ib
   ·exact ib
   ·exact decide_eq_true h) (by simp [aY]) (.inl (by rw [qT _ hwy];exact aC _)) w hw
  rw [qT _ hwy] at k
  unfold wrN
  rw [h,Nat.one_mul]
  exact k
 ·have k:=aD (Cx.tell_ok Ah _) mixed aO (by kernel_rfl) Tryz.func51 (by kernel_rfl) r0 (by
   intro p hp
   simp only [List.mem_cons,List.not_mem_nil,or_false] at hp
   rcases hp with rfl | rfl | rfl | rfl
   ·exact aI _
   ·exact ib
   ·exact ib
   ·exact decide_eq_false h) (by simp [aY]) (.inl (aC _)) w hw
  have h0:wx p % 2=0:=by omega
  unfold wrN
  rw [h0,Nat.zero_mul,Nat.add_zero]
  exact k
def gWr:List Value→Option (List Prop × Value)
 | [A]=>some ([IsP A],bv (wrN (p4 A)))
 | _=>none
theorem JI {X:Cx} (hX:X.Ok Tryz.prog) (hc:bp M0 X.gl=true):(X.var M0 51 gWr).Ok Tryz.prog:=by
 refine bW hX aO hc Tryz.func51 (by kernel_rfl) (by kernel_rfl) ?_
 intro args ps v ha hg hp
 unfold gWr at hg
 split at hg
 ·rename_i A
  simp only [qG,qH] at hg
  obtain ⟨rfl,rfl⟩:=hg
  obtain ⟨hA,lA⟩:=hp _ (List.mem_singleton.2 rfl)
  refine ⟨.inl (aC _),fun w hw => ?_⟩
  have h:=yY lA w hw
  rw [←hA] at h
  exact h
 ·simp at hg
end Go.Proofs.YtajehiidpecknaaGreatDoor
/- Package point: read as a dw. -/
namespace Go.Proofs.YtajehiidpecknaaGreatDoor
open Go Go.RowKit
def F8:Cx:=F7.var M0 51 gWr
theorem k9:F8.Ok Tryz.prog:=JI Ah (by kernel_rfl)
def kj (n:Nat):Bool := !(bits .and .u8 (by8 n 31) 128 == 0)
def ncB (n:Nat):Bool := !decide (aj (dH n)<pp)
def sxV (n:Nat):Nat:=aj (bv (sxN (aj (dH n))))
def ql (n:Nat):Bool := !(sqe (sxV n) == 0)
def rtV (n:Nat):Value:=bv (sqv (sxV n))
def yQ (n:Nat):Bool:=eqB (bl (sqv (sxV n))).toArray (bl 0).toArray 32
def noP:P4:=⟨0,0,0,0⟩
theorem al0 : ∀ p ∈ ([]:List Prop),p:=fun _ h=>(by cases h)
theorem al {q:Prop} {l:List Prop} (hq:q) (h : ∀ p ∈ l,p) : ∀ p ∈ q :: l,p:=fun p hp=>by
 rcases List.mem_cons.1 hp with rfl | hp
 ·exact hq
 ·exact h p hp
theorem zn (n:Nat):sfunG Tryz.prog (F8.tell [(11,true),(19,true)]) M0 80 Tryz.f70 (ag Tryz.f70) [bv n]=some ([kj n=true,IsB (dH n),ncB n=true],.tuple #[pv noP,.int .i64 2]):=by kernel_rfl
theorem zG (n:Nat):sfunG Tryz.prog (F8.tell [(11,true),(19,false),(28,true)]) M0 80 Tryz.f70 (ag Tryz.f70) [bv n]=some ([kj n=true,IsB (dH n),ncB n=false,IsB (dH n),IsB (bv (sxN (aj (dH n)))),ql n=true],.tuple #[pv noP,.int .i64 2]):=by kernel_rfl
theorem vW (n:Nat):sfunG Tryz.prog (F8.tell [(11,false),(19,true)]) M0 80 Tryz.f70 (ag Tryz.f70) [bv n]=some ([kj n=false,IsB (dH n),ncB n=true],.tuple #[pv noP,.int .i64 2]):=by kernel_rfl
theorem vB (n:Nat):sfunG Tryz.prog (F8.tell [(11,false),(19,false),(28,true)]) M0 80 Tryz.f70 (ag Tryz.f70) [bv n]=some ([kj n=false,IsB (dH n),ncB n=false,IsB (dH n),IsB (bv (sxN (aj (dH n)))),ql n=true],.tuple #[pv noP,.int .i64 2]):=by kernel_rfl
theorem MS (n:Nat):sfunG Tryz.prog (F8.tell [(11,true),(19,false),(28,false),(34,true)]) M0 80 Tryz.f70 (ag Tryz.f70) [bv n]=some ([kj n=true,IsB (dH n),ncB n=false,IsB (dH n),IsB (bv (sxN (aj (dH n)))),ql n=false,yQ n=true],.tuple #[pv noP,.int .i64 2]):=by kernel_rfl
theorem NA (n:Nat):sfunG Tryz.prog (F8.tell [(11,true),(19,false),(28,false),(34,false)]) M0 80 Tryz.f70 (ag Tryz.f70) [bv n]=some ([kj n=true,IsB (dH n),ncB n=false,IsB (dH n),IsB (bv (sxN (aj (dH n)))),ql n=false,yQ n=false,IB (bv 0) (rtV n),IB (SB (bv 0) (rtV n)) (dH n)],.tuple #[pv (atN (aj (SB (bv 0) (rtV n))) (aj (dH n))),.int .i64 0]):=by kernel_rfl
theorem Nc (n:Nat):sfunG Tryz.prog (F8.tell [(11,false),(19,false),(28,false)]) M0 80 Tryz.f70 (ag Tryz.f70) [bv n]=some ([kj n=false,IsB (dH n),ncB n=false,IsB (dH n),IsB (bv (sxN (aj (dH n)))),ql n=false,IB (rtV n) (dH n)],.tuple #[pv (atN (aj (rtV n)) (aj (dH n))),.int .i64 0]):=by kernel_rfl
def iH (n:Nat):Bool:=decide (TT≤n)
def eA (n:Nat):Nat:=sqv (sxN (n % TT))
def bG (n:Nat):Bool:=decide (n % TT<pp) && (decide (sqe (sxN (n % TT))=0) && !(iH n && decide (eA n=0)))
def rdX (n:Nat):Nat:=if iH n then fsb 0 (eA n) else eA n
def rdP (n:Nat):P4:=if bG n then atN (rdX n) (n % TT) else noP
def rdE (n:Nat):Int:=if bG n then 0 else 2
theorem rW (a:Nat):sqv a<RN:=by
 unfold sqv
 split
 ·unfold ev
  have:=xV a
  have h2:pp<RN:=by decide
  split <;> omega
 ·decide
theorem dU (n:Nat):n % TT<RN:=Nat.lt_trans (Nat.mod_lt _ (by decide)) (by decide)
theorem IG (y:Nat):sxN y<RN:=fJ _ _
theorem xA {n:Nat} (h:n<RN):kj n=iH n:=by
 unfold kj iH
 have hb:n/256 ^ 31 % 256<256:=Nat.mod_lt _ (by decide)
 have o:=(iG ⟨n/256 ^ 31 % 256,hb⟩).2.1
 simp only at o
 show (!(bits .and .u8 ((n/256 ^ 31 % 256:Nat):Int) 128 == 0))=_
 rw [o,decide_eq_decide]
 have h2:n/256 ^ 31<256:=by rw [Nat.div_lt_iff_lt_mul (by decide)];exact Nat.lt_of_lt_of_le h (by decide)
 rw [Nat.mod_eq_of_lt h2,Nat.le_div_iff_mul_le (by decide),jB,Nat.mul_comm]
theorem Db {n:Nat} (h:n<RN):ncB n = !decide (n % TT<pp):=by
 unfold ncB;rw [lT n h,au (dU n)]
theorem vy {n:Nat} (h:n<RN):sxV n=sxN (n % TT):=by
 unfold sxV;rw [lT n h,au (dU n),au (IG _)]
theorem ye {n:Nat} (h:n<RN):ql n = !decide (sqe (sxN (n % TT))=0):=by
 unfold ql;rw [vy h]
 by_cases e:sqe (sxN (n % TT))=0 <;> simp [e]
theorem Dv {n:Nat} (h:n<RN):rtV n=bv (eA n):=by unfold rtV eA;rw [vy h]
theorem Im (m n:Nat) (hm:m<RN) (hn:n<RN):eqB (bl m).toArray (bl n).toArray 32=decide (m=n):=by
 have g : ∀ k i,i<32→iI (bl k).toArray i=by8 k i:=fun k i hi=>by
  unfold iI
  have:(bl k).toArray[i]? = some (.int .u8 (by8 k i)):=by simp [bl,hi]
  rw [this]
 unfold eqB
 by_cases h:m=n
 ·subst h
  rw [decide_eq_true rfl]
  exact List.all_eq_true.2 fun i _=>by simp
 ·rw [decide_eq_false h]
  apply Bool.eq_false_iff.2
  intro hall
  apply h
  have key:=xo (m:=m) (n:=n) 32 (fun i hi=>by
   have:=List.all_eq_true.1 hall i (List.mem_range.2 hi)
   rw [g m i hi,g n i hi] at this
   simpa using this)
  have e:256 ^ 32=RN:=by decide
  rw [e,Nat.mod_eq_of_lt hm,Nat.mod_eq_of_lt hn] at key
  exact key
theorem xM {n:Nat} (h:n<RN):yQ n=decide (eA n=0):=by
 unfold yQ;rw [vy h];exact Im _ 0 (rW _) (by decide)
theorem eD (n:Nat):(rdP n).ok:=by
 unfold rdP
 split
 ·refine Ax ?_ (dU n)
  unfold rdX
  split
  ·exact mz _ _
  ·exact rW _
 ·exact ⟨by decide,by decide,by decide,by decide⟩
theorem Bu (n:Nat) (h:n<RN) (w:World) (hw:Glo M0 w):Calls Tryz.prog 70 #[bv n] w fun e w'=>e = .returned (.tuple #[pv (rdP n),.int .i64 (rdE n)])∧Below w.heap.size w w':=by
 have hl:=lT n h
 have fin : ∀ {X:Cx} (hX:X.Ok Tryz.prog) (hin:lV M0 X.gl=true) {ps:List Prop} {v:Value} (run:sfunG Tryz.prog X M0 80 Tryz.f70 (ag Tryz.f70) [bv n]=some (ps,v)) (hp : ∀ p ∈ ps,p) (hv:v = .tuple #[pv (rdP n),.int .i64 (rdE n)]),Calls Tryz.prog 70 #[bv n] w fun e w'=>e = .returned (.tuple #[pv (rdP n),.int .i64 (rdE n)])∧Below w.heap.size w w':=by
  intro X hX hin ps v run hp hv
  subst hv
  exact aD hX mixed aO hin Tryz.func70 (by kernel_rfl) run hp (by simp [aC]) (.inl (oM _ _)) w hw
 have bad:bG n=false→(Value.tuple #[pv noP,.int .i64 2]) = .tuple #[pv (rdP n),.int .i64 (rdE n)]:=fun hk=>by
  unfold rdP rdE;rw [hk,if_neg Bool.false_ne_true,if_neg Bool.false_ne_true]
 have hrt:eA n<RN:=rW _
 have IL:IsB (dH n):=by rw [hl];exact aI _
 have bl':aj (dH n)=n % TT:=by rw [hl,au (dU n)]
 by_cases hc:n % TT<pp
 ·have c1:ncB n=false:=by rw [Db h];simp [hc]
  by_cases he:sqe (sxN (n % TT))=0
  ·have e1:ql n=false:=by rw [ye h];simp [he]
   by_cases ho:iH n=true
   ·have o1:kj n=true:=by rw [xA h];exact ho
    by_cases hz:eA n=0
    ·have z1:yQ n=true:=by rw [xM h];simp [hz]
     exact fin (Cx.tell_ok k9 _) (by kernel_rfl) (MS n) (al o1 (al IL (al c1 (al IL (al (aI _) (al e1 (al z1 al0))))))) (bad (by unfold bG;simp [ho,hz]))
    ·have z1:yQ n=false:=by rw [xM h];simp [hz]
     have hk:bG n=true:=by unfold bG;simp [hc,he,ho,hz]
     refine fin (Cx.tell_ok k9 _) (by kernel_rfl) (NA n) (al o1 (al IL (al c1 (al IL (al (aI _) (al e1 (al z1 (al ib (al ⟨aI _,IL⟩ al0))))))))) ?_
     ·unfold rdP rdE rdX
      rw [hk,ho,bl',Dv h,fk 0 (eA n) (by decide) hrt,au (mz _ _),if_pos rfl,if_pos rfl,if_pos rfl]
   ·have ho:iH n=false:=by simpa using ho
    have o1:kj n=false:=by rw [xA h];exact ho
    have hk:bG n=true:=by unfold bG;simp [hc,he,ho]
    refine fin (Cx.tell_ok k9 _) (by kernel_rfl) (Nc n) (al o1 (al IL (al c1 (al IL (al (aI _) (al e1 (al ⟨aI _,IL⟩ al0))))))) ?_
    ·unfold rdP rdE rdX
     rw [hk,ho,bl',Dv h,au hrt,if_pos rfl,if_pos rfl,if_neg Bool.false_ne_true]
  ·have e1:ql n=true:=by rw [ye h];simp [he]
   have hk:bG n=false:=by unfold bG;simp [he]
   cases ho:kj n
   ·exact fin (Cx.tell_ok k9 _) (by kernel_rfl) (vB n) (al ho (al IL (al c1 (al IL (al (aI _) (al e1 al0)))))) (bad hk)
   ·exact fin (Cx.tell_ok k9 _) (by kernel_rfl) (zG n) (al ho (al IL (al c1 (al IL (al (aI _) (al e1 al0)))))) (bad hk)
 ·have c1:ncB n=true:=by rw [Db h];simp [hc]
  have hk:bG n=false:=by unfold bG;simp [hc]
  cases ho:kj n
  ·exact fin (Cx.tell_ok k9 _) (by kernel_rfl) (vW n) (al ho (al IL (al c1 al0))) (bad hk)
  ·exact fin (Cx.tell_ok k9 _) (by kernel_rfl) (zn n) (al ho (al IL (al c1 al0))) (bad hk)
def gRdp:List Value→Option (List Prop × Value)
 | [A]=>some ([IsB A],.tuple #[pv (rdP (aj A)),.int .i64 (rdE (aj A))])
 | _=>none
theorem FO {X:Cx} (hX:X.Ok Tryz.prog) (hc:bp M0 X.gl=true):(X.var M0 70 gRdp).Ok Tryz.prog:=by
 refine bW hX aO hc Tryz.func70 (by kernel_rfl) (by kernel_rfl) ?_
 intro args ps v ha hg hp
 unfold gRdp at hg
 split at hg
 ·rename_i A
  simp only [qG,qH] at hg
  obtain ⟨rfl,rfl⟩:=hg
  have hA:=hp _ (List.mem_singleton.2 rfl)
  refine ⟨.inl (oM _ _),fun w hw => ?_⟩
  have h:=Bu (aj A) (aQ hA) w hw
  rw [← (show A=bv (aj A) from hA)] at h
  exact h
 ·simp at hg
def F9:Cx:=F8.var M0 70 gRdp
theorem iJ:F9.Ok Tryz.prog:=FO k9 (by kernel_rfl)
end Go.Proofs.YtajehiidpecknaaGreatDoor
/- Package point: what it exports, as contracts. -/
namespace Go.Proofs.YtajehiidpecknaaGreatDoor
open Go Go.RowKit
theorem eS {n:Nat} (h:bG n=true):rdE n=0:=by unfold rdE;rw [h,if_pos rfl]
theorem gR {n:Nat} (h:bG n=false):rdE n=2:=by unfold rdE;rw [h,if_neg Bool.false_ne_true]
theorem GH  : sfunG Tryz.prog F9 M0 80 Tryz.f54 (ag Tryz.f54) []=some ([],bv 1):=by kernel_rfl
theorem Gb   (w:World) (hw:Glo M0 w):Calls Tryz.prog 54 #[] w fun e w'=>e = .returned (bv 1)∧Below w.heap.size w w':=by
 exact aD iJ mixed aO (by kernel_rfl) Tryz.func54 (by kernel_rfl) GH (al0) rfl (.inl (aC _)) w hw
def gZer:List Value→Option (List Prop × Value)
 | []=>some ([],bv 1)
 | _=>none
def I3:List Value→Option (List Prop × Value)
 | []=>some ([],bv GY)
 | _=>none
def gChk:List Value→Option (List Prop × Value)
 | [A]=>some ([IsB A],.int .i64 (rdE (aj A)))
 | _=>none
theorem zZ (a:Nat):sfunG Tryz.prog (F9.tell [(12,true)]) M0 80 Tryz.f80 (ag Tryz.f80) [bv a]=some ([IsB (bv a),(!(rdE (aj (bv a)) == 0))=true],.tuple #[bv 0,.int .i64 (rdE (aj (bv a)))]):=by kernel_rfl
theorem Aj (a:Nat):sfunG Tryz.prog (F9.tell [(12,false)]) M0 80 Tryz.f80 (ag Tryz.f80) [bv a]=some ([IsB (bv a),(!(rdE (aj (bv a)) == 0))=false,IsP (pv (rdP (aj (bv a)))),IsP (pv (Cc (p4 (pv (rdP (aj (bv a)))))))],.tuple #[bv (wrN (p4 (pv (Cc (p4 (pv (rdP (aj (bv a))))))))),.int .i64 0]):=by kernel_rfl
def z6 (a:Nat):Nat:=if bG a then wrN (Cc (rdP a)) else 0
theorem FH (a:Nat) (ha:a<RN) (w:World) (hw:Glo M0 w):Calls Tryz.prog 80 #[bv a] w fun e w'=>e = .returned (.tuple #[bv (z6 a),.int .i64 (rdE a)])∧Below w.heap.size w w':=by
 cases hk:bG a
 ·have r:=zZ a
  rw [au ha,gR hk] at r
  rw [gR hk]
  unfold z6
  rw [hk,if_neg Bool.false_ne_true]
  exact aD (Cx.tell_ok iJ _) mixed aO (by kernel_rfl) Tryz.func80 (by kernel_rfl) r (al (aI _) (al rfl al0)) (by simp [aC]) (.inl (bE _ _)) w hw
 ·have r:=Aj a
  rw [au ha,cY (eD a),cY (xH (eD a)),eS hk] at r
  rw [eS hk]
  unfold z6
  rw [hk,if_pos rfl]
  exact aD (Cx.tell_ok iJ _) mixed aO (by kernel_rfl) Tryz.func80 (by kernel_rfl) r (al (aI _) (al rfl (al (cm (eD a)) (al (cm (xH (eD a))) al0)))) (by simp [aC]) (.inl (bE _ _)) w hw
def Ma:List Value→Option (List Prop × Value)
 | [A]=>some ([IsB A],.tuple #[bv (z6 (aj A)),.int .i64 (rdE (aj A))])
 | _=>none
theorem Ec {X:Cx} (hX:X.Ok Tryz.prog) (hc:bp M0 X.gl=true):(X.var M0 80 Ma).Ok Tryz.prog:=by
 refine bW hX aO hc Tryz.func80 (by kernel_rfl) (by kernel_rfl) ?_
 intro args ps v ha hg hp
 unfold Ma at hg
 split at hg
 ·rename_i A
  simp only [qG,qH] at hg
  obtain ⟨rfl,rfl⟩:=hg
  have hA:=hp _ (List.mem_singleton.2 rfl)
  refine ⟨.inl (bE _ _),fun w hw => ?_⟩
  have h:=FH (aj A) (aQ hA) w hw
  rw [← (show A=bv (aj A) from hA)] at h
  exact h
 ·simp at hg
theorem Dm (n:Nat) (a:Nat):sfunG Tryz.prog (F9.tell [(14,true)]) M0 80 Tryz.f55 (ag Tryz.f55) [bv n,bv a]=some ([IsB (bv a),(!(rdE (aj (bv a)) == 0))=true],.tuple #[bv 0,.int .i64 (rdE (aj (bv a)))]):=by kernel_rfl
theorem Bi (n:Nat) (a:Nat):sfunG Tryz.prog (F9.tell [(14,false)]) M0 80 Tryz.f55 (ag Tryz.f55) [bv n,bv a]=some ([IsB (bv a),(!(rdE (aj (bv a)) == 0))=false,IsB (bv n)∧IsP (pv (rdP (aj (bv a)))),IsP (pv (dB (aj (bv n)) (p4 (pv (rdP (aj (bv a)))))))],.tuple #[bv (wrN (p4 (pv (dB (aj (bv n)) (p4 (pv (rdP (aj (bv a))))))))),.int .i64 0]):=by kernel_rfl
def gb (n:Nat) (a:Nat):Nat:=if bG a then wrN (dB n (rdP a)) else 0
theorem Ga (n:Nat) (a:Nat) (hn:n<RN) (ha:a<RN) (w:World) (hw:Glo M0 w):Calls Tryz.prog 55 #[bv n,bv a] w fun e w'=>e = .returned (.tuple #[bv (gb n a),.int .i64 (rdE a)])∧Below w.heap.size w w':=by
 cases hk:bG a
 ·have r:=Dm n a
  rw [au ha,gR hk] at r
  rw [gR hk]
  unfold gb
  rw [hk,if_neg Bool.false_ne_true]
  exact aD (Cx.tell_ok iJ _) mixed aO (by kernel_rfl) Tryz.func55 (by kernel_rfl) r (al (aI _) (al rfl al0)) (by simp [aC]) (.inl (bE _ _)) w hw
 ·have r:=Bi n a
  rw [au ha,au hn,cY (eD a),cY (iX n (rdP a)),eS hk] at r
  rw [eS hk]
  unfold gb
  rw [hk,if_pos rfl]
  exact aD (Cx.tell_ok iJ _) mixed aO (by kernel_rfl) Tryz.func55 (by kernel_rfl) r (al (aI _) (al rfl (al ⟨aI _,cm (eD a)⟩ (al (cm (iX _ _)) al0)))) (by simp [aC]) (.inl (bE _ _)) w hw
def gPml:List Value→Option (List Prop × Value)
 | [A,B]=>some ([IsB A∧IsB B],.tuple #[bv (gb (aj A) (aj B)),.int .i64 (rdE (aj B))])
 | _=>none
theorem EO {X:Cx} (hX:X.Ok Tryz.prog) (hc:bp M0 X.gl=true):(X.var M0 55 gPml).Ok Tryz.prog:=by
 refine bW hX aO hc Tryz.func55 (by kernel_rfl) (by kernel_rfl) ?_
 intro args ps v ha hg hp
 unfold gPml at hg
 split at hg
 ·rename_i A B
  simp only [qG,qH] at hg
  obtain ⟨rfl,rfl⟩:=hg
  obtain ⟨hA,hB⟩:=hp _ (List.mem_singleton.2 rfl)
  refine ⟨.inl (bE _ _),fun w hw => ?_⟩
  have h:=Ga (aj A) (aj B) (aQ hA) (aQ hB) w hw
  rw [← (show A=bv (aj A) from hA),← (show B=bv (aj B) from hB)] at h
  exact h
 ·simp at hg
theorem Cs (a:Nat):sfunG Tryz.prog (F9.tell [(12,true)]) M0 80 Tryz.f35 (ag Tryz.f35) [bv a]=some ([IsB (bv a),(!(rdE (aj (bv a)) == 0))=true],.tuple #[bv 0,.int .i64 (rdE (aj (bv a)))]):=by kernel_rfl
theorem Ae (a:Nat):sfunG Tryz.prog (F9.tell [(12,false)]) M0 80 Tryz.f35 (ag Tryz.f35) [bv a]=some ([IsB (bv a),(!(rdE (aj (bv a)) == 0))=false,IsP (pv (rdP (aj (bv a)))),IsP (pv (eg (p4 (pv (rdP (aj (bv a))))))),IsP (pv (eg (p4 (pv (eg (p4 (pv (rdP (aj (bv a)))))))))),IsP (pv (eg (p4 (pv (eg (p4 (pv (eg (p4 (pv (rdP (aj (bv a)))))))))))))],.tuple #[bv (wrN (p4 (pv (eg (p4 (pv (eg (p4 (pv (eg (p4 (pv (rdP (aj (bv a))))))))))))))),.int .i64 0]):=by kernel_rfl
def qX (a:Nat):Nat:=if bG a then wrN (eg (eg (eg (rdP a)))) else 0
theorem Eb (a:Nat) (ha:a<RN) (w:World) (hw:Glo M0 w):Calls Tryz.prog 35 #[bv a] w fun e w'=>e = .returned (.tuple #[bv (qX a),.int .i64 (rdE a)])∧Below w.heap.size w w':=by
 cases hk:bG a
 ·have r:=Cs a
  rw [au ha,gR hk] at r
  rw [gR hk]
  unfold qX
  rw [hk,if_neg Bool.false_ne_true]
  exact aD (Cx.tell_ok iJ _) mixed aO (by kernel_rfl) Tryz.func35 (by kernel_rfl) r (al (aI _) (al rfl al0)) (by simp [aC]) (.inl (bE _ _)) w hw
 ·have r:=Ae a
  rw [au ha,cY (eD a),cY (dv (rdP a)),cY (dv (eg (rdP a))),cY (dv (eg (eg (rdP a)))),eS hk] at r
  rw [eS hk]
  unfold qX
  rw [hk,if_pos rfl]
  exact aD (Cx.tell_ok iJ _) mixed aO (by kernel_rfl) Tryz.func35 (by kernel_rfl) r (al (aI _) (al rfl (al (cm (eD a)) (al (cm (dv _)) (al (cm (dv _)) (al (cm (dv _)) al0)))))) (by simp [aC]) (.inl (bE _ _)) w hw
theorem AP (a:Nat) (b:Nat):sfunG Tryz.prog (F9.tell [(15,true)]) M0 80 Tryz.f81 (ag Tryz.f81) [bv a,bv b]=some ([IsB (bv a),(!(rdE (aj (bv a)) == 0))=true],.tuple #[bv 0,.int .i64 (rdE (aj (bv a)))]):=by kernel_rfl
theorem CA (a:Nat) (b:Nat):sfunG Tryz.prog (F9.tell [(15,false),(24,true)]) M0 80 Tryz.f81 (ag Tryz.f81) [bv a,bv b]=some ([IsB (bv a),(!(rdE (aj (bv a)) == 0))=false,IsB (bv b),(!(rdE (aj (bv b)) == 0))=true],.tuple #[bv 0,.int .i64 (rdE (aj (bv b)))]):=by kernel_rfl
theorem CQ (a:Nat) (b:Nat):sfunG Tryz.prog (F9.tell [(15,false),(24,false)]) M0 80 Tryz.f81 (ag Tryz.f81) [bv a,bv b]=some ([IsB (bv a),(!(rdE (aj (bv a)) == 0))=false,IsB (bv b),(!(rdE (aj (bv b)) == 0))=false,IsP (pv (rdP (aj (bv a))))∧IsP (pv (rdP (aj (bv b)))),IsP (pv (jx (p4 (pv (rdP (aj (bv a))))) (p4 (pv (rdP (aj (bv b)))))))],.tuple #[bv (wrN (p4 (pv (jx (p4 (pv (rdP (aj (bv a))))) (p4 (pv (rdP (aj (bv b))))))))),.int .i64 0]):=by kernel_rfl
def addN (a b:Nat):Nat:=if bG a && bG b then wrN (jx (rdP a) (rdP b)) else 0
def zR (a b:Nat):Int:=if bG a && bG b then 0 else 2
theorem Ev (a:Nat) (b:Nat) (ha:a<RN) (hb:b<RN) (w:World) (hw:Glo M0 w):Calls Tryz.prog 81 #[bv a,bv b] w fun e w'=>e = .returned (.tuple #[bv (addN a b),.int .i64 (zR a b)])∧Below w.heap.size w w':=by
 cases hka:bG a
 ·have r:=AP a b
  rw [au ha,gR hka] at r
  unfold addN zR
  rw [hka,Bool.false_and,if_neg Bool.false_ne_true,if_neg Bool.false_ne_true]
  exact aD (Cx.tell_ok iJ _) mixed aO (by kernel_rfl) Tryz.func81 (by kernel_rfl) r (al (aI _) (al rfl al0)) (by simp [aC]) (.inl (bE _ _)) w hw
 ·cases hkb:bG b
  ·have r:=CA a b
   rw [au ha,au hb,eS hka,gR hkb] at r
   unfold addN zR
   rw [hka,hkb,Bool.true_and,if_neg Bool.false_ne_true,if_neg Bool.false_ne_true]
   exact aD (Cx.tell_ok iJ _) mixed aO (by kernel_rfl) Tryz.func81 (by kernel_rfl) r (al (aI _) (al rfl (al (aI _) (al rfl al0)))) (by simp [aC]) (.inl (bE _ _)) w hw
  ·have r:=CQ a b
   rw [au ha,au hb,eS hka,eS hkb,cY (eD a),cY (eD b),cY (lR (rdP a) (rdP b))] at r
   unfold addN zR
   rw [hka,hkb,Bool.true_and,if_pos rfl,if_pos rfl]
   exact aD (Cx.tell_ok iJ _) mixed aO (by kernel_rfl) Tryz.func81 (by kernel_rfl) r (al (aI _) (al rfl (al (aI _) (al rfl (al ⟨cm (eD a),cm (eD b)⟩ (al (cm (lR _ _)) al0)))))) (by simp [aC]) (.inl (bE _ _)) w hw
def KD:List Value→Option (List Prop × Value)
 | [A,B]=>some ([IsB A∧IsB B],.tuple #[bv (addN (aj A) (aj B)),.int .i64 (zR (aj A) (aj B))])
 | _=>none
theorem EX {X:Cx} (hX:X.Ok Tryz.prog) (hc:bp M0 X.gl=true):(X.var M0 81 KD).Ok Tryz.prog:=by
 refine bW hX aO hc Tryz.func81 (by kernel_rfl) (by kernel_rfl) ?_
 intro args ps v ha hg hp
 unfold KD at hg
 split at hg
 ·rename_i A B
  simp only [qG,qH] at hg
  obtain ⟨rfl,rfl⟩:=hg
  obtain ⟨hA,hB⟩:=hp _ (List.mem_singleton.2 rfl)
  refine ⟨.inl (bE _ _),fun w hw => ?_⟩
  have h:=Ev (aj A) (aj B) (aQ hA) (aQ hB) w hw
  rw [← (show A=bv (aj A) from hA),← (show B=bv (aj B) from hB)] at h
  exact h
 ·simp at hg
def F9g:Cx:=(F9.glo gl5).var M1 53 gGen
theorem JU:F9g.Ok Tryz.prog:=EU (Cx.glo_ok iJ fun g h=>KR h) (by kernel_rfl)
theorem yk:uB.ok:=Ax (by decide) (by decide)
def uy (n:Nat):Nat:=wrN (dB n uB)
theorem EK (n:Nat):sfunG Tryz.prog F9g M1 80 Tryz.f18 (ag Tryz.f18) [bv n]=some ([IsB (bv n)∧IsP (pv uB),IsP (pv (dB (aj (bv n)) (p4 (pv uB))))],bv (wrN (p4 (pv (dB (aj (bv n)) (p4 (pv uB))))))):=by kernel_rfl
theorem xS (n:Nat) (hn:n<RN) (w:World) (hw:Glo M1 w):Calls Tryz.prog 18 #[bv n] w fun e w'=>e = .returned (bv (uy n))∧Below w.heap.size w w':=by
 have r:=EK n
 rw [au hn,cY yk,cY (iX _ _)] at r
 exact aD JU mixed mo (by kernel_rfl) Tryz.func18 (by kernel_rfl) r (al ⟨aI _,cm yk⟩ (al (cm (iX _ _)) al0)) (by simp [aC]) (.inl (aC _)) w hw
def Mp:List Value→Option (List Prop × Value)
 | [A]=>some ([IsB A],bv (uy (aj A)))
 | _=>none
theorem GJ {X:Cx} (hX:X.Ok Tryz.prog) (hc:bp M1 X.gl=true):(X.var M1 18 Mp).Ok Tryz.prog:=by
 refine bW hX mo hc Tryz.func18 (by kernel_rfl) (by kernel_rfl) ?_
 intro args ps v ha hg hp
 unfold Mp at hg
 split at hg
 ·rename_i A
  simp only [qG,qH] at hg
  obtain ⟨rfl,rfl⟩:=hg
  have hA:=hp _ (List.mem_singleton.2 rfl)
  refine ⟨.inl (aC _),fun w hw => ?_⟩
  have h:=xS (aj A) (aQ hA) w hw
  rw [← (show A=bv (aj A) from hA)] at h
  exact h
 ·simp at hg
end Go.Proofs.YtajehiidpecknaaGreatDoor
/- What package point's calls answer, in the curve's group. -/
namespace Go.Proofs.YtajehiidpecknaaGreatDoor
open Go
def cP (p:P4):E4 KK:=⟨cK p.x,cK p.y,cK p.z,cK p.t⟩
theorem wT (a b:Nat):cK (fad a b)=cK a+cK b:=Dr a b
theorem qO (a b:Nat):cK (fsb a b)=cK a - cK b:=Ar a b
theorem fH (a b:Nat):cK (fml a b)=cK a*cK b:=eZ a b
theorem vL (a:Nat):cK (fiv a)=lK (cK a):=(yb a).symm
theorem Bw (x xu y yu:Nat):cP (nC x xu y yu)=xi (cK x) (cK xu) (cK y) (cK yu):=by
 unfold cP nC xi
 simp only [fH]
theorem Ck (a b:P4):cP (jx a b)=yS DK (cP a) (cP b):=by
 unfold jx
 simp only [Bw]
 unfold yS cP
 simp only [fH,wT,qO]
 rfl
theorem jC (a:P4):cP (eg a)=I8 (cP a):=by
 unfold eg
 simp only [Bw]
 unfold I8 cP
 simp only [fH,wT,qO]
theorem BD:cP il=Eh:=by
 unfold il Eh cP
 simp only [sr,mr]
theorem xz (x y:Nat):cP (atN x y)=atE (cK x) (cK y):=by
 unfold atN atE cP
 simp only [fH,mr]
abbrev PT:Type:=Pt DK
abbrev zx (p q:PT):PT:=p.add FK q
abbrev eQ (n:Nat) (p:PT):PT:=p.smul FK n
theorem Gx {a:P4} {p:PT} (h:Rep (cP a) p):Rep (cP (wW a)) (eQ 16 p):=by
 unfold wW
 rw [jC,jC,jC,jC]
 show Rep _ (Pt.smul FK 16 p)
 rw [Pt.dbl16]
 exact gU FK (gU FK (gU FK (gU FK h)))
theorem qo {a:P4} {p:PT} (h:Rep (cP a) p) : ∀ i,Rep (cP (muN a i)) (eQ i p)
 | 0=>by
  show Rep (cP il) (Pt.zero DK)
  rw [BD];exact yo FK
 | i+1=>by
  show Rep (cP (jx (muN a i) a)) ((eQ i p).add FK p)
  rw [Ck];exact qM FK (qo h i) h
theorem uk {t q:P4} {p:PT} {m d:Nat} (ht:Rep (cP t) (eQ m p)) (hq:Rep (cP q) (eQ d p)):Rep (cP (gY t q)) (eQ (16*m+d) p):=by
 unfold gY
 rw [Ck]
 have:=qM FK (Gx ht) hq
 show Rep _ (Pt.smul FK (16*m+d) p)
 rw [Pt.smul_add,Pt.smul_mul]
 exact this
theorem AO {a:P4} {p:PT} (h:Rep (cP a) p) (n:Nat) (hn:n<RN) : ∀ j,j≤32→Rep (cP (tmR a n j)) (eQ (n/256 ^ (32 - j)) p)
 | 0,_=>by
  have:n/256 ^ (32 - 0)=0:=Nat.div_eq_of_lt (by rw [Nat.sub_zero];exact Nat.lt_of_lt_of_le hn (by decide))
  rw [this]
  exact qo h 0
 | j+1,hj=>by
  have ih:=AO h n hn j (by omega)
  have e:n/256 ^ (32 - (j+1))=16*(16*(n/256 ^ (32 - j))+n/256 ^ (31 - j) % 256/16)+n/256 ^ (31 - j) % 256 % 16:=by
   have e1:32 - j=(31 - j)+1:=by omega
   have e2:32 - (j+1)=31 - j:=by omega
   rw [e1,e2,Nat.pow_succ,←Nat.div_div_eq_div_mul]
   generalize n/256 ^ (31 - j)=z
   omega
  rw [e]
  exact uk (uk ih (qo h _)) (qo h _)
theorem gE {a:P4} {p:PT} (h:Rep (cP a) p) (n:Nat) (hn:n<RN):Rep (cP (dB n a)) (eQ n p):=by
 have:=AO h n hn 32 (Nat.le_refl _)
 rw [Nat.sub_self,Nat.pow_zero,Nat.div_one] at this
 exact this
def enc (p:PT):Nat:=p.y.val+p.x.val % 2*TT
theorem nM {a:Nat} {k:KK} (h:a<pp) (e:cK a=k):a=k.val:=by
 rw [←e,ep,Nat.mod_eq_of_lt h]
theorem nu {a:P4} {p:PT} (h:Rep (cP a) p):wrN a=enc p:=by
 obtain ⟨h1,h2,h3,_⟩:=h
 have hz:cK a.z≠0:=h1
 have iv:=FK.inv _ hz
 have hx:cK a.x=p.x*cK a.z:=h2
 have hy:cK a.y=p.y*cK a.z:=h3
 have kx:cK (wx a)=p.x:=by
  unfold wx;rw [fH,vL,hx]
  have:=gL p.x (cK a.z) (lK (cK a.z))
  rw [this,iv,jZ]
 have ky:cK (wy a)=p.y:=by
  unfold wy;rw [fH,vL,hy]
  have:=gL p.y (cK a.z) (lK (cK a.z))
  rw [this,iv,jZ]
 unfold wrN enc
 rw [←nM (fM _ _) kx,←nM (fM _ _) ky]
 rfl
section
variable {d:KK} {inv:KK→KK}
theorem Hl (F:Fld d inv) (y:KK):1+d*(y*y)≠0:=fun h=>by
 obtain ⟨i,hi⟩:=F.root
 have h0:=F.nsq i y (by grind)
 apply F.one
 grind
theorem Ay {x y:KK} (h:On d x y):x*x*(1+d*(y*y))=y*y - 1:=by
 unfold On at h;grind
theorem BZ {x y:KK} (h:x*x*(1+d*(y*y))=y*y - 1):On d x y:=by
 unfold On;grind
theorem Iu {x y:KK} (h:On d x y):On d (0 - x) y:=by unfold On at *;grind
theorem Ag (F:Fld d inv) {x y:KK} (h:On d x y):(y*y - 1)*inv (1+d*(y*y))=x*x:=by
 have h1:=Ay h
 have h2:=F.inv _ (Hl F y)
 generalize inv (1+d*(y*y))=z at *
 rw [←h1]
 grind
theorem wY (F:Fld d inv) {x y:KK} (h:x*x=(y*y - 1)*inv (1+d*(y*y))):On d x y:=by
 have h2:=F.inv _ (Hl F y)
 generalize inv (1+d*(y*y))=z at *
 apply BZ
 rw [h]
 grind
theorem J4 (F:Fld d inv) {x z:KK} (h:x*x=z*z):x=z∨x=0 - z:=by
 have:(x - z)*(x+z)=0:=by grind
 rcases F.nz _ _ this with h | h
 ·left;grind
 ·right;grind
end
theorem mv (p:PT):enc p % TT=p.y.val:=by
 unfold enc
 rw [Nat.add_mul_mod_self_right]
 exact Nat.mod_eq_of_lt (Nat.lt_trans p.y.isLt iC)
theorem jK (p:PT):enc p/TT=p.x.val % 2:=by
 unfold enc
 rw [Nat.add_mul_div_right _ _ (by decide),Nat.div_eq_of_lt (Nat.lt_trans p.y.isLt iC),Nat.zero_add]
theorem wu (p:PT):enc p<RN:=by
 unfold enc
 have h1:p.y.val<TT:=Nat.lt_trans p.y.isLt iC
 have h3:RN=TT+TT:=by decide
 rcases (by omega:p.x.val % 2=0∨p.x.val % 2=1) with h | h <;> rw [h] <;> omega
theorem DV (k:KK) (h:k≠0):(0 - k).val=pp - k.val:=by
 have hk:k.val≠0:=fun e=>h (Fin.ext e)
 rw [Fin.sub_def]
 show (pp - k.val+0) % pp=_
 rw [Nat.add_zero]
 have:=k.isLt
 exact Nat.mod_eq_of_lt (by omega)
theorem CK:pp % 2=1:=by decide
theorem x9 {p q:PT} (h:enc p=enc q):p=q:=by
 have hy:p.y=q.y:=Fin.ext (by rw [←mv,←mv,h])
 have ho:p.x.val % 2=q.x.val % 2:=by rw [←jK,←jK,h]
 have h1:=Ag FK p.on
 have h2:=Ag FK q.on
 rw [hy,h2] at h1
 rcases J4 FK h1.symm with e | e
 ·exact Pt.ext' e hy
 ·by_cases h0:q.x=0
  ·refine Pt.ext' ?_ hy
   rw [e,h0];rfl
  ·exfalso
   have:=DV q.x h0
   rw [e,this] at ho
   have hl:=q.x.isLt
   have:=CK
   omega
theorem Bj (y:Nat):cK (sxN y)=(cK y*cK y - 1)*lK (1+DK*(cK y*cK y)):=by
 unfold sxN
 rw [fH,qO,fH,vL,wT,fH,fH,mr]
 rfl
theorem gZ {s:Nat} : sqe s=0↔rt s*rt s % pp=s % pp:=by
 unfold sqe
 split
 ·rename_i h;exact ⟨fun _=>h,fun _=>rfl⟩
 ·rename_i h;exact ⟨fun e=>absurd e (by decide),fun e=>absurd e h⟩
theorem nD (n:Nat):bG n=true↔n % TT<pp∧sqe (sxN (n % TT))=0 ∧ ¬ (TT≤n∧eA n=0):=by
 unfold bG iH
 simp only [Bool.and_eq_true,decide_eq_true_eq,Bool.not_eq_true',Bool.and_eq_false_iff,decide_eq_false_iff_not]
 constructor
 ·rintro ⟨h1,h2,h3⟩
  exact ⟨h1,h2,fun ⟨a,b⟩=>by rcases h3 with h | h;exact h a;exact h b⟩
 ·rintro ⟨h1,h2,h3⟩
  refine ⟨h1,h2,?_⟩
  by_cases ht:TT≤n
  ·exact .inr fun e=>h3 ⟨ht,e⟩
  ·exact .inl ht
theorem nB {n:Nat} (hn:n<RN) (h:bG n=true) : ∃ p:PT,enc p=n∧Rep (cP (rdP n)) p:=by
 obtain ⟨h1,h2,h3⟩:=(nD n).1 h
 have hs:=gZ.1 h2
 have hr:eA n=ev (rt (sxN (n % TT))):=by
  unfold eA sqv;rw [if_pos hs]
 have lt:=xV (sxN (n % TT))
 have hr1:eA n<pp:=by rw [hr];exact Kn _ lt
 have hr2:eA n % 2=0:=by rw [hr];exact Fm _ lt
 have hr3:eA n*eA n % pp=sxN (n % TT) % pp:=by rw [hr,Hr _ lt,hs]
 have hK:cK (eA n)*cK (eA n)=(cK (n % TT)*cK (n % TT) - 1)*lK (1+DK*(cK (n % TT)*cK (n % TT))):=by
  rw [←Bj,←eZ,hr3,nw]
 have on0:=wY FK hK
 have onx:On DK (cK (rdX n)) (cK (n % TT)):=by
  unfold rdX
  split
  ·rw [qO,sr];exact Iu on0
  ·exact on0
 refine ⟨⟨cK (rdX n),cK (n % TT),onx⟩,?_,?_⟩
 ·unfold enc
  simp only
  have hxl:rdX n<pp:=by
   unfold rdX
   split
   ·exact rY _ _
   ·exact hr1
  rw [ep,ep,Nat.mod_eq_of_lt h1,Nat.mod_eq_of_lt hxl]
  have h4:RN=TT+TT:=by decide
  by_cases ht:TT≤n
  ·have hz : ¬ eA n=0:=fun e=>h3 ⟨ht,e⟩
   have e1:rdX n=pp - eA n:=by
    unfold rdX iH
    rw [decide_eq_true ht,if_pos rfl]
    unfold fsb
    rw [Nat.zero_add,Nat.mod_eq_of_lt hr1,Nat.mod_eq_of_lt (by omega)]
   have:=CK
   have e2:rdX n % 2=1:=by rw [e1];omega
   rw [e2,Nat.one_mul]
   have:n % TT=n - TT:=by rw [Nat.mod_eq_sub_mod ht,Nat.mod_eq_of_lt (by omega)]
   omega
  ·have e1:rdX n=eA n:=by
    unfold rdX iH
    rw [decide_eq_false ht,if_neg Bool.false_ne_true]
   rw [e1,hr2,Nat.zero_mul,Nat.add_zero]
   exact Nat.mod_eq_of_lt (by omega)
 ·unfold rdP
  rw [h,if_pos rfl,xz]
  exact vE FK (⟨cK (rdX n),cK (n % TT),onx⟩:PT)
theorem kI (p:PT):bG (enc p)=true:=by
 have hy:=mv p
 have ky:cK (enc p % TT)=p.y:=by rw [hy];exact uA _
 have ks:cK (sxN (enc p % TT))=p.x*p.x:=by rw [Bj,ky];exact Ag FK p.on
 have hs:sxN (enc p % TT)=p.x.val*p.x.val % pp:=by
  have:=nM (fM _ _) ks
  rw [Fin.val_mul] at this
  exact this
 have hr:=Gv p.x.val _ hs
 rw [nD]
 refine ⟨by rw [hy];exact p.y.isLt,gZ.2 hr,?_⟩
 rintro ⟨ht,hz⟩
 have hodd:p.x.val % 2=1:=by
  rw [←jK]
  have h4:RN=TT*2:=by decide
  have hl:=wu p
  have h1:enc p/TT<2:=by rw [Nat.div_lt_iff_lt_mul (by decide)];omega
  have h2:1≤enc p/TT:=by rw [Nat.le_div_iff_mul_le (by decide)];omega
  omega
 have hz':ev (rt (sxN (enc p % TT)))=0:=by
  unfold eA sqv at hz
  rw [if_pos hr] at hz
  exact hz
 have e:=Hr _ (xV (sxN (enc p % TT)))
 rw [hz',hr,Nat.mul_zero,Nat.zero_mod] at e
 have k0:p.x*p.x=0:=by rw [←ks];exact gH.2 e.symm
 have:p.x=0:=by
  rcases FK.nz _ _ k0 with h | h <;> exact h
 rw [this] at hodd
 exact absurd hodd (by decide)
theorem qL (p:PT):Rep (cP (rdP (enc p))) p:=by
 obtain ⟨q,h1,h2⟩:=nB (wu p) (kI p)
 rw [←x9 h1];rw [x9 h1] at h2 ⊢;exact h2
def BP:PT:=⟨cK GX,cK GY,by unfold On DK;decide +kernel⟩
theorem EN:Rep (cP uB) BP:=by
 unfold uB
 rw [xz]
 exact vE FK BP
theorem Iq:enc BP=GY:=by decide +kernel
theorem rR (n:Nat) (hn:n<RN) (p:PT):gb n (enc p)=enc (eQ n p):=by
 unfold gb
 rw [kI,if_pos rfl]
 exact nu (gE (qL p) n hn)
theorem qh (n:Nat) (hn:n<RN):uy n=enc (eQ n BP):=nu (gE EN n hn)
theorem yw (p:PT):qX (enc p)=enc (eQ 8 p):=by
 unfold qX
 rw [kI,if_pos rfl]
 refine nu ?_
 rw [jC,jC,jC]
 show Rep _ (Pt.smul FK 8 p)
 rw [Pt.dbl8]
 exact gU FK (gU FK (gU FK (qL p)))
theorem FF (p:PT):rdE (enc p)=0:=eS (kI p)
end Go.Proofs.YtajehiidpecknaaGreatDoor
