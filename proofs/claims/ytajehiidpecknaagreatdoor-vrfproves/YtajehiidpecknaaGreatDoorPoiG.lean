/- Package point: squareOfX, read, write as contracts. -/
import Derived.Test.YtajehiidpecknaaGreatDoorFieT
import Derived.Test.YtajehiidpecknaaGreatDoorPoiE
import Derived.Test.YtajehiidpecknaaGreatDoorPoiM
set_option linter.all false
namespace Go.Proofs.YtajehiidpecknaaGreatDoor
open Go Go.RowKit
def gSqF:List Value→Option (List Prop × Value)
 | [A]=>some ([IsB A],.tuple #[bv (sqv (aj A)),.int .i64 (sqe (aj A))])
 | _=>none
theorem bE (n:Nat) (e:Int):flat (.tuple #[bv n,.int .i64 e])=true:=by
 show ([bv n,.int .i64 e].all flat2)=true
 have:flat2 (bv n)=true:=aC n
 rw [List.all_cons,this];rfl
theorem oW (p:P4) (e:Int):flat (.tuple #[pv p,.int .i64 e])=true:=by
 show ([pv p,.int .i64 e].all flat2)=true
 have:flat2 (pv p)=true:=aZ p
 rw [List.all_cons,this];rfl
theorem DS {X:Cx} (hX:X.Ok Tryz.prog):(X.pure 111 gSqF).Ok Tryz.prog:=by
 refine aA hX Tryz.func111 (by kernel_rfl) (by kernel_rfl) ?_
 intro args ps v ha hg hp
 unfold gSqF at hg
 split at hg
 ·rename_i A
  simp only [qG,qH] at hg
  obtain ⟨rfl,rfl⟩:=hg
  have hA:=hp _ (List.mem_singleton.2 rfl)
  refine ⟨.inl (bE _ _),fun w => ?_⟩
  have h:=Cu (aj A) (aQ hA) w
  rw [← (show A=bv (aj A) from hA)] at h
  exact h
 ·simp at hg
def F6:Cx:=F5.pure 111 gSqF
theorem kT:F6.Ok Tryz.prog:=DS nw
def sxN (y:Nat):Nat:=fml (fsb (fml y y) 1) (fiv (fad 1 (fml DN' (fml y y))))
def sqV (y:Nat):Value:=ML (bv y) (bv y)
def dvV (y:Nat):Value:=AD (bv 1) (ML (bv DN') (sqV y))
theorem Ja (y:Nat):sfunG Tryz.prog F6 M0 60 Tryz.f112 (ag Tryz.f112) [bv y]=some ([IB (bv y) (bv y),IB (bv DN') (sqV y),IB (bv 1) (ML (bv DN') (sqV y)),IB (sqV y) (bv 1),IsB (dvV y),IB (SB (sqV y) (bv 1)) (IV (dvV y))],ML (SB (sqV y) (bv 1)) (IV (dvV y))):=by kernel_rfl
theorem H9 {y:Nat} (h:y<RN):ML (SB (sqV y) (bv 1)) (IV (dvV y))=bv (sxN y):=by
 have h1:sqV y=bv (fml y y):=di _ _ h h
 have h2:dvV y=bv (fad 1 (fml DN' (fml y y))):=by unfold dvV;rw [h1,di _ _ (by decide) (fM _ _),dO _ _ (by decide) (fM _ _)]
 rw [h1,h2,fE _ _ (fM _ _) (by decide),yl _ (lv _ _),di _ _ (mY _ _) (J5 _)]
 rfl
def Ie:List Value→Option (List Prop × Value)
 | [A]=>some ([IsB A],bv (sxN (aj A)))
 | _=>none
theorem EK {X:Cx} (hX:X.Ok Tryz.prog) (hc:bp M0 X.gl=true):(X.var M0 112 Ie).Ok Tryz.prog:=by
 refine bW hX aO hc Tryz.func112 (by kernel_rfl) (by kernel_rfl) ?_
 intro args ps v ha hg hp
 unfold Ie at hg
 split at hg
 ·rename_i A
  simp only [qG,qH] at hg
  obtain ⟨rfl,rfl⟩:=hg
  have hA:=hp _ (List.mem_singleton.2 rfl)
  refine ⟨.inl (aC _),fun w hw => ?_⟩
  have run:=Ja (aj A)
  rw [H9 (aQ hA)] at run
  have h:=aD kT mixed aO (by kernel_rfl) Tryz.func112 (by kernel_rfl) run (by
   intro p hp
   simp only [List.mem_cons,List.not_mem_nil,or_false] at hp
   rcases hp with rfl | rfl | rfl | rfl | rfl | rfl <;> first | exact ib | exact aI _) (by simp [aC]) (.inl (aC _)) w hw
  rw [← (show A=bv (aj A) from hA)] at h
  exact h
 ·simp at hg
def F7:Cx:=F6.var M0 112 Ie
theorem Dn:F7.Ok Tryz.prog:=EK kT (by kernel_rfl)
def TT:Nat:=57896044618658097711785492504343953926634992332820282019728792003956564819968
theorem js:TT=256 ^ 31*128:=by decide
def dF (n:Nat):Value := .agg ((bl n).take 31 ++ [Value.int .u8 (bits .andNot .u8 (by8 n 31) 128)]).toArray
def Jf (n:Nat):Value := .agg ((bl n).take 31 ++ [Value.int .u8 (bits .or .u8 (by8 n 31) 128)]).toArray
theorem ik : ∀ y:Fin 256,bits .andNot .u8 ((y.val:Nat):Int) 128=((y.val % 128:Nat):Int)∧(!(bits .and .u8 ((y.val:Nat):Int) 128 == 0))=decide (128≤y.val)∧bits .or .u8 ((y.val:Nat):Int) 128=((y.val % 128+128:Nat):Int)∧(bits .and .u8 ((y.val:Nat):Int) 1 == 1)=decide (y.val % 2=1):=by decide +kernel
theorem nB (n:Nat):bl n=(bl n).take 31 ++ [.int .u8 (by8 n 31)]:=by
 unfold bl
 rw [show (32:Nat)=31+1 from rfl,List.range_succ,List.map_append,List.take_left' (by simp)]
 rfl
theorem jQ {m n:Nat} (h:m % 256 ^ 31=n % 256 ^ 31):(bl m).take 31=(bl n).take 31:=by
 unfold bl
 rw [←List.map_take,←List.map_take,List.take_range]
 refine List.map_congr_left fun i hi => ?_
 have hi:i<31:=by simpa using hi
 rw [←jZ m 31 i hi,←jZ n 31 i hi,h]
theorem lL (n:Nat) (h:n<RN):dF n=bv (n % TT):=by
 unfold dF bv br
 rw [nB (n % TT)]
 have hb:n/256 ^ 31 % 256<256:=Nat.mod_lt _ (by decide)
 have e1:by8 n 31=((n/256 ^ 31 % 256:Nat):Int):=rfl
 have o:=(ik ⟨n/256 ^ 31 % 256,hb⟩).1
 simp only at o
 have e2:by8 (n % TT) 31=((n/256 ^ 31 % 256 % 128:Nat):Int):=by
  unfold by8
  rw [js,Nat.mod_mul_right_div_self]
  congr 1
  omega
 rw [e1,o,e2,jQ (m:=n % TT) (n:=n) (by rw [js,Nat.mod_mul_right_mod])]
theorem rO (n:Nat) (h:n<TT):Jf n=bv (n+TT):=by
 unfold Jf bv br
 rw [nB (n+TT)]
 have hb:n/256 ^ 31 % 256<256:=Nat.mod_lt _ (by decide)
 have e1:by8 n 31=((n/256 ^ 31 % 256:Nat):Int):=rfl
 have o:=(ik ⟨n/256 ^ 31 % 256,hb⟩).2.2.1
 simp only at o
 have hl:n/256 ^ 31<128:=by rw [Nat.div_lt_iff_lt_mul (by decide),Nat.mul_comm,←js];exact h
 have e2:by8 (n+TT) 31=((n/256 ^ 31 % 256 % 128+128:Nat):Int):=by
  unfold by8
  rw [js,Nat.add_mul_div_left _ _ (by decide)]
  congr 1
  omega
 rw [e1,o,e2,jQ (m:=n+TT) (n:=n) (by rw [js,Nat.add_mul_mod_self_left])]
def ivV (p:P4):Value:=IV (bv p.z)
def wx (p:P4):Nat:=fml p.x (fiv p.z)
def wy (p:P4):Nat:=fml p.y (fiv p.z)
def wxS (p:P4):Nat:=fml (aj (bv p.x)) (aj (ivV p))
def wyS (p:P4):Nat:=fml (aj (bv p.y)) (aj (ivV p))
theorem DX (p:P4):sfunG Tryz.prog (F7.tell [(20,false)]) M0 60 Tryz.f51 (ag Tryz.f51) [pv p]=some ([IsB (bv p.z),IB (bv p.x) (ivV p),IB (bv p.y) (ivV p),(bits .and .u8 (by8 (wxS p) 0) 1 == 1)=false],bv (wyS p)):=by kernel_rfl
theorem ER (p:P4):sfunG Tryz.prog (F7.tell [(20,true)]) M0 60 Tryz.f51 (ag Tryz.f51) [pv p]=some ([IsB (bv p.z),IB (bv p.x) (ivV p),IB (bv p.y) (ivV p),(bits .and .u8 (by8 (wxS p) 0) 1 == 1)=true],Jf (wyS p)):=by kernel_rfl
def wrN (p:P4):Nat:=wy p+wx p % 2*TT
theorem im:pp<TT:=by decide
theorem yR {p:P4} (lp:p.ok) (w:World) (hw:Glo M0 w):Calls Tryz.prog 51 #[pv p] w fun e w'=>e = .returned (bv (wrN p))∧Below w.heap.size w w':=by
 have e1:ivV p=bv (fiv p.z):=yl _ lp.z
 have e2:wxS p=wx p:=by unfold wxS wx;rw [e1,au lp.x,au (J5 _)]
 have e3:wyS p=wy p:=by unfold wyS wy;rw [e1,au lp.y,au (J5 _)]
 have hb:wx p/256 ^ 0 % 256<256:=Nat.mod_lt _ (by decide)
 have o:=(ik ⟨wx p/256 ^ 0 % 256,hb⟩).2.2.2
 simp only at o
 have o:(bits .and .u8 (by8 (wx p) 0) 1 == 1)=decide (wx p % 2=1):=by
  show (bits .and .u8 ((wx p/256 ^ 0 % 256:Nat):Int) 1 == 1)=_
  rw [o,decide_eq_decide,Nat.pow_zero,Nat.div_one,Nat.mod_mod_of_dvd _ (by decide)]
 have hwy:wy p<TT:=Nat.lt_trans (fL _ _) im
 have r0:=DX p
 have r1:=ER p
 rw [e2,e3,e1] at r0 r1
 rw [o] at r0 r1
 by_cases h:wx p % 2=1
 ·have k:=aD (Cx.tell_ok Dn _) mixed aO (by kernel_rfl) Tryz.func51 (by kernel_rfl) r1 (by
   intro p hp
   simp only [List.mem_cons,List.not_mem_nil,or_false] at hp
   rcases hp with rfl | rfl | rfl | rfl
   ·exact aI _
   ·exact ib
   ·exact ib
   ·exact decide_eq_true h) (by simp [aZ]) (.inl (by rw [rO _ hwy];exact aC _)) w hw
  rw [rO _ hwy] at k
  unfold wrN
  rw [h,Nat.one_mul]
  exact k
 ·have k:=aD (Cx.tell_ok Dn _) mixed aO (by kernel_rfl) Tryz.func51 (by kernel_rfl) r0 (by
   intro p hp
   simp only [List.mem_cons,List.not_mem_nil,or_false] at hp
   rcases hp with rfl | rfl | rfl | rfl
   ·exact aI _
   ·exact ib
   ·exact ib
   ·exact decide_eq_false h) (by simp [aZ]) (.inl (aC _)) w hw
  have h0:wx p % 2=0:=by omega
  unfold wrN
  rw [h0,Nat.zero_mul,Nat.add_zero]
  exact k
def gWr:List Value→Option (List Prop × Value)
 | [A]=>some ([IsP A],bv (wrN (p4 A)))
 | _=>none
theorem JK {X:Cx} (hX:X.Ok Tryz.prog) (hc:bp M0 X.gl=true):(X.var M0 51 gWr).Ok Tryz.prog:=by
 refine bW hX aO hc Tryz.func51 (by kernel_rfl) (by kernel_rfl) ?_
 intro args ps v ha hg hp
 unfold gWr at hg
 split at hg
 ·rename_i A
  simp only [qG,qH] at hg
  obtain ⟨rfl,rfl⟩:=hg
  obtain ⟨hA,lA⟩:=hp _ (List.mem_singleton.2 rfl)
  refine ⟨.inl (aC _),fun w hw => ?_⟩
  have h:=yR lA w hw
  rw [←hA] at h
  exact h
 ·simp at hg
end Go.Proofs.YtajehiidpecknaaGreatDoor
namespace Go.Proofs.YtajehiidpecknaaGreatDoor
open Go Go.RowKit
def F8:Cx:=F7.var M0 51 gWr
theorem ll:F8.Ok Tryz.prog:=JK Dn (by kernel_rfl)
def kR (n:Nat):Bool := !(bits .and .u8 (by8 n 31) 128 == 0)
def ncB (n:Nat):Bool := !decide (aj (dF n)<pp)
def sxV (n:Nat):Nat:=aj (bv (sxN (aj (dF n))))
def qn (n:Nat):Bool := !(sqe (sxV n) == 0)
def rtV (n:Nat):Value:=bv (sqv (sxV n))
def yP (n:Nat):Bool:=eqB (bl (sqv (sxV n))).toArray (bl 0).toArray 32
def noP:P4:=⟨0,0,0,0⟩
theorem al0 : ∀ p ∈ ([]:List Prop),p:=fun _ h=>(by cases h)
theorem al {q:Prop} {l:List Prop} (hq:q) (h : ∀ p ∈ l,p) : ∀ p ∈ q :: l,p:=fun p hp=>by
 rcases List.mem_cons.1 hp with rfl | hp
 ·exact hq
 ·exact h p hp
theorem zP (n:Nat):sfunG Tryz.prog (F8.tell [(11,true),(19,true)]) M0 80 Tryz.f70 (ag Tryz.f70) [bv n]=some ([kR n=true,IsB (dF n),ncB n=true],.tuple #[pv noP,.int .i64 2]):=by kernel_rfl
theorem zS (n:Nat):sfunG Tryz.prog (F8.tell [(11,true),(19,false),(28,true)]) M0 80 Tryz.f70 (ag Tryz.f70) [bv n]=some ([kR n=true,IsB (dF n),ncB n=false,IsB (dF n),IsB (bv (sxN (aj (dF n)))),qn n=true],.tuple #[pv noP,.int .i64 2]):=by kernel_rfl
theorem vG (n:Nat):sfunG Tryz.prog (F8.tell [(11,false),(19,true)]) M0 80 Tryz.f70 (ag Tryz.f70) [bv n]=some ([kR n=false,IsB (dF n),ncB n=true],.tuple #[pv noP,.int .i64 2]):=by kernel_rfl
theorem vH (n:Nat):sfunG Tryz.prog (F8.tell [(11,false),(19,false),(28,true)]) M0 80 Tryz.f70 (ag Tryz.f70) [bv n]=some ([kR n=false,IsB (dF n),ncB n=false,IsB (dF n),IsB (bv (sxN (aj (dF n)))),qn n=true],.tuple #[pv noP,.int .i64 2]):=by kernel_rfl
theorem ME (n:Nat):sfunG Tryz.prog (F8.tell [(11,true),(19,false),(28,false),(34,true)]) M0 80 Tryz.f70 (ag Tryz.f70) [bv n]=some ([kR n=true,IsB (dF n),ncB n=false,IsB (dF n),IsB (bv (sxN (aj (dF n)))),qn n=false,yP n=true],.tuple #[pv noP,.int .i64 2]):=by kernel_rfl
theorem MQ (n:Nat):sfunG Tryz.prog (F8.tell [(11,true),(19,false),(28,false),(34,false)]) M0 80 Tryz.f70 (ag Tryz.f70) [bv n]=some ([kR n=true,IsB (dF n),ncB n=false,IsB (dF n),IsB (bv (sxN (aj (dF n)))),qn n=false,yP n=false,IB (bv 0) (rtV n),IB (SB (bv 0) (rtV n)) (dF n)],.tuple #[pv (atN (aj (SB (bv 0) (rtV n))) (aj (dF n))),.int .i64 0]):=by kernel_rfl
theorem Ns (n:Nat):sfunG Tryz.prog (F8.tell [(11,false),(19,false),(28,false)]) M0 80 Tryz.f70 (ag Tryz.f70) [bv n]=some ([kR n=false,IsB (dF n),ncB n=false,IsB (dF n),IsB (bv (sxN (aj (dF n)))),qn n=false,IB (rtV n) (dF n)],.tuple #[pv (atN (aj (rtV n)) (aj (dF n))),.int .i64 0]):=by kernel_rfl
def gY (n:Nat):Bool:=decide (TT≤n)
def eA (n:Nat):Nat:=sqv (sxN (n % TT))
def bG (n:Nat):Bool:=decide (n % TT<pp) && (decide (sqe (sxN (n % TT))=0) && !(gY n && decide (eA n=0)))
def rdX (n:Nat):Nat:=if gY n then fsb 0 (eA n) else eA n
def rdP (n:Nat):P4:=if bG n then atN (rdX n) (n % TT) else noP
def rdE (n:Nat):Int:=if bG n then 0 else 2
theorem rj (a:Nat):sqv a<RN:=by
 unfold sqv
 split
 ·unfold ev
  have:=xP a
  have h2:pp<RN:=by decide
  split <;> omega
 ·decide
theorem dY (n:Nat):n % TT<RN:=Nat.lt_trans (Nat.mod_lt _ (by decide)) (by decide)
theorem I9 (y:Nat):sxN y<RN:=fM _ _
theorem yw {n:Nat} (h:n<RN):kR n=gY n:=by
 unfold kR gY
 have hb:n/256 ^ 31 % 256<256:=Nat.mod_lt _ (by decide)
 have o:=(ik ⟨n/256 ^ 31 % 256,hb⟩).2.1
 simp only at o
 show (!(bits .and .u8 ((n/256 ^ 31 % 256:Nat):Int) 128 == 0))=_
 rw [o,decide_eq_decide]
 have h2:n/256 ^ 31<256:=by rw [Nat.div_lt_iff_lt_mul (by decide)];exact Nat.lt_of_lt_of_le h (by decide)
 rw [Nat.mod_eq_of_lt h2,Nat.le_div_iff_mul_le (by decide),js,Nat.mul_comm]
theorem Bb {n:Nat} (h:n<RN):ncB n = !decide (n % TT<pp):=by
 unfold ncB;rw [lL n h,au (dY n)]
theorem vJ {n:Nat} (h:n<RN):sxV n=sxN (n % TT):=by
 unfold sxV;rw [lL n h,au (dY n),au (I9 _)]
theorem xH {n:Nat} (h:n<RN):qn n = !decide (sqe (sxN (n % TT))=0):=by
 unfold qn;rw [vJ h]
 by_cases e:sqe (sxN (n % TT))=0 <;> simp [e]
theorem Ar {n:Nat} (h:n<RN):rtV n=bv (eA n):=by unfold rtV eA;rw [vJ h]
theorem Iu (m n:Nat) (hm:m<RN) (hn:n<RN):eqB (bl m).toArray (bl n).toArray 32=decide (m=n):=by
 have g : ∀ k i,i<32→ix (bl k).toArray i=by8 k i:=fun k i hi=>by
  unfold ix
  have:(bl k).toArray[i]? = some (.int .u8 (by8 k i)):=by simp [bl,hi]
  rw [this]
 unfold eqB
 by_cases h:m=n
 ·subst h
  rw [decide_eq_true rfl]
  exact List.all_eq_true.2 fun i _=>by simp
 ·rw [decide_eq_false h]
  apply Bool.eq_false_iff.2
  intro hall
  apply h
  have key:=vn (m:=m) (n:=n) 32 (fun i hi=>by
   have:=List.all_eq_true.1 hall i (List.mem_range.2 hi)
   rw [g m i hi,g n i hi] at this
   simpa using this)
  have e:256 ^ 32=RN:=by decide
  rw [e,Nat.mod_eq_of_lt hm,Nat.mod_eq_of_lt hn] at key
  exact key
theorem xv {n:Nat} (h:n<RN):yP n=decide (eA n=0):=by
 unfold yP;rw [vJ h];exact Iu _ 0 (rj _) (by decide)
theorem ep (n:Nat):(rdP n).ok:=by
 unfold rdP
 split
 ·refine B9 ?_ (dY n)
  unfold rdX
  split
  ·exact mY _ _
  ·exact rj _
 ·exact ⟨by decide,by decide,by decide,by decide⟩
theorem Bx (n:Nat) (h:n<RN) (w:World) (hw:Glo M0 w):Calls Tryz.prog 70 #[bv n] w fun e w'=>e = .returned (.tuple #[pv (rdP n),.int .i64 (rdE n)])∧Below w.heap.size w w':=by
 have hl:=lL n h
 have fin : ∀ {X:Cx} (hX:X.Ok Tryz.prog) (hin:mn M0 X.gl=true) {ps:List Prop} {v:Value} (run:sfunG Tryz.prog X M0 80 Tryz.f70 (ag Tryz.f70) [bv n]=some (ps,v)) (hp : ∀ p ∈ ps,p) (hv:v = .tuple #[pv (rdP n),.int .i64 (rdE n)]),Calls Tryz.prog 70 #[bv n] w fun e w'=>e = .returned (.tuple #[pv (rdP n),.int .i64 (rdE n)])∧Below w.heap.size w w':=by
  intro X hX hin ps v run hp hv
  subst hv
  exact aD hX mixed aO hin Tryz.func70 (by kernel_rfl) run hp (by simp [aC]) (.inl (oW _ _)) w hw
 have bad:bG n=false→(Value.tuple #[pv noP,.int .i64 2]) = .tuple #[pv (rdP n),.int .i64 (rdE n)]:=fun hk=>by
  unfold rdP rdE;rw [hk,if_neg Bool.false_ne_true,if_neg Bool.false_ne_true]
 have hrt:eA n<RN:=rj _
 have IL:IsB (dF n):=by rw [hl];exact aI _
 have bl':aj (dF n)=n % TT:=by rw [hl,au (dY n)]
 by_cases hc:n % TT<pp
 ·have c1:ncB n=false:=by rw [Bb h];simp [hc]
  by_cases he:sqe (sxN (n % TT))=0
  ·have e1:qn n=false:=by rw [xH h];simp [he]
   by_cases ho:gY n=true
   ·have o1:kR n=true:=by rw [yw h];exact ho
    by_cases hz:eA n=0
    ·have z1:yP n=true:=by rw [xv h];simp [hz]
     exact fin (Cx.tell_ok ll _) (by kernel_rfl) (ME n) (al o1 (al IL (al c1 (al IL (al (aI _) (al e1 (al z1 al0))))))) (bad (by unfold bG;simp [ho,hz]))
    ·have z1:yP n=false:=by rw [xv h];simp [hz]
     have hk:bG n=true:=by unfold bG;simp [hc,he,ho,hz]
     refine fin (Cx.tell_ok ll _) (by kernel_rfl) (MQ n) (al o1 (al IL (al c1 (al IL (al (aI _) (al e1 (al z1 (al ib (al ⟨aI _,IL⟩ al0))))))))) ?_
     ·unfold rdP rdE rdX
      rw [hk,ho,bl',Ar h,fE 0 (eA n) (by decide) hrt,au (mY _ _),if_pos rfl,if_pos rfl,if_pos rfl]
   ·have ho:gY n=false:=by simpa using ho
    have o1:kR n=false:=by rw [yw h];exact ho
    have hk:bG n=true:=by unfold bG;simp [hc,he,ho]
    refine fin (Cx.tell_ok ll _) (by kernel_rfl) (Ns n) (al o1 (al IL (al c1 (al IL (al (aI _) (al e1 (al ⟨aI _,IL⟩ al0))))))) ?_
    ·unfold rdP rdE rdX
     rw [hk,ho,bl',Ar h,au hrt,if_pos rfl,if_pos rfl,if_neg Bool.false_ne_true]
  ·have e1:qn n=true:=by rw [xH h];simp [he]
   have hk:bG n=false:=by unfold bG;simp [he]
   cases ho:kR n
   ·exact fin (Cx.tell_ok ll _) (by kernel_rfl) (vH n) (al ho (al IL (al c1 (al IL (al (aI _) (al e1 al0)))))) (bad hk)
   ·exact fin (Cx.tell_ok ll _) (by kernel_rfl) (zS n) (al ho (al IL (al c1 (al IL (al (aI _) (al e1 al0)))))) (bad hk)
 ·have c1:ncB n=true:=by rw [Bb h];simp [hc]
  have hk:bG n=false:=by unfold bG;simp [hc]
  cases ho:kR n
  ·exact fin (Cx.tell_ok ll _) (by kernel_rfl) (vG n) (al ho (al IL (al c1 al0))) (bad hk)
  ·exact fin (Cx.tell_ok ll _) (by kernel_rfl) (zP n) (al ho (al IL (al c1 al0))) (bad hk)
def gRdp:List Value→Option (List Prop × Value)
 | [A]=>some ([IsB A],.tuple #[pv (rdP (aj A)),.int .i64 (rdE (aj A))])
 | _=>none
theorem GB {X:Cx} (hX:X.Ok Tryz.prog) (hc:bp M0 X.gl=true):(X.var M0 70 gRdp).Ok Tryz.prog:=by
 refine bW hX aO hc Tryz.func70 (by kernel_rfl) (by kernel_rfl) ?_
 intro args ps v ha hg hp
 unfold gRdp at hg
 split at hg
 ·rename_i A
  simp only [qG,qH] at hg
  obtain ⟨rfl,rfl⟩:=hg
  have hA:=hp _ (List.mem_singleton.2 rfl)
  refine ⟨.inl (oW _ _),fun w hw => ?_⟩
  have h:=Bx (aj A) (aQ hA) w hw
  rw [← (show A=bv (aj A) from hA)] at h
  exact h
 ·simp at hg
def F9:Cx:=F8.var M0 70 gRdp
theorem iI:F9.Ok Tryz.prog:=GB ll (by kernel_rfl)
end Go.Proofs.YtajehiidpecknaaGreatDoor
namespace Go.Proofs.YtajehiidpecknaaGreatDoor
open Go Go.RowKit
theorem eS {n:Nat} (h:bG n=true):rdE n=0:=by unfold rdE;rw [h,if_pos rfl]
theorem gG {n:Nat} (h:bG n=false):rdE n=2:=by unfold rdE;rw [h,if_neg Bool.false_ne_true]
theorem Ea  : sfunG Tryz.prog F9 M0 80 Tryz.f54 (ag Tryz.f54) []=some ([],bv 1):=by kernel_rfl
theorem Fl   (w:World) (hw:Glo M0 w):Calls Tryz.prog 54 #[] w fun e w'=>e = .returned (bv 1)∧Below w.heap.size w w':=by
 exact aD iI mixed aO (by kernel_rfl) Tryz.func54 (by kernel_rfl) Ea (al0) rfl (.inl (aC _)) w hw
def gZer:List Value→Option (List Prop × Value)
 | []=>some ([],bv 1)
 | _=>none
def Ik:List Value→Option (List Prop × Value)
 | []=>some ([],bv GY)
 | _=>none
def gChk:List Value→Option (List Prop × Value)
 | [A]=>some ([IsB A],.int .i64 (rdE (aj A)))
 | _=>none
theorem Cj (a:Nat):sfunG Tryz.prog (F9.tell [(12,true)]) M0 80 Tryz.f80 (ag Tryz.f80) [bv a]=some ([IsB (bv a),(!(rdE (aj (bv a)) == 0))=true],.tuple #[bv 0,.int .i64 (rdE (aj (bv a)))]):=by kernel_rfl
theorem Ax (a:Nat):sfunG Tryz.prog (F9.tell [(12,false)]) M0 80 Tryz.f80 (ag Tryz.f80) [bv a]=some ([IsB (bv a),(!(rdE (aj (bv a)) == 0))=false,IsP (pv (rdP (aj (bv a)))),IsP (pv (AE (p4 (pv (rdP (aj (bv a)))))))],.tuple #[bv (wrN (p4 (pv (AE (p4 (pv (rdP (aj (bv a))))))))),.int .i64 0]):=by kernel_rfl
def Ap (a:Nat):Nat:=if bG a then wrN (AE (rdP a)) else 0
theorem Gq (a:Nat) (ha:a<RN) (w:World) (hw:Glo M0 w):Calls Tryz.prog 80 #[bv a] w fun e w'=>e = .returned (.tuple #[bv (Ap a),.int .i64 (rdE a)])∧Below w.heap.size w w':=by
 cases hk:bG a
 ·have r:=Cj a
  rw [au ha,gG hk] at r
  rw [gG hk]
  unfold Ap
  rw [hk,if_neg Bool.false_ne_true]
  exact aD (Cx.tell_ok iI _) mixed aO (by kernel_rfl) Tryz.func80 (by kernel_rfl) r (al (aI _) (al rfl al0)) (by simp [aC]) (.inl (bE _ _)) w hw
 ·have r:=Ax a
  rw [au ha,cY (ep a),cY (xE (ep a)),eS hk] at r
  rw [eS hk]
  unfold Ap
  rw [hk,if_pos rfl]
  exact aD (Cx.tell_ok iI _) mixed aO (by kernel_rfl) Tryz.func80 (by kernel_rfl) r (al (aI _) (al rfl (al (cg (ep a)) (al (cg (xE (ep a))) al0)))) (by simp [aC]) (.inl (bE _ _)) w hw
def LZ:List Value→Option (List Prop × Value)
 | [A]=>some ([IsB A],.tuple #[bv (Ap (aj A)),.int .i64 (rdE (aj A))])
 | _=>none
theorem D7 {X:Cx} (hX:X.Ok Tryz.prog) (hc:bp M0 X.gl=true):(X.var M0 80 LZ).Ok Tryz.prog:=by
 refine bW hX aO hc Tryz.func80 (by kernel_rfl) (by kernel_rfl) ?_
 intro args ps v ha hg hp
 unfold LZ at hg
 split at hg
 ·rename_i A
  simp only [qG,qH] at hg
  obtain ⟨rfl,rfl⟩:=hg
  have hA:=hp _ (List.mem_singleton.2 rfl)
  refine ⟨.inl (bE _ _),fun w hw => ?_⟩
  have h:=Gq (aj A) (aQ hA) w hw
  rw [← (show A=bv (aj A) from hA)] at h
  exact h
 ·simp at hg
theorem Av (n:Nat) (a:Nat):sfunG Tryz.prog (F9.tell [(14,true)]) M0 80 Tryz.f55 (ag Tryz.f55) [bv n,bv a]=some ([IsB (bv a),(!(rdE (aj (bv a)) == 0))=true],.tuple #[bv 0,.int .i64 (rdE (aj (bv a)))]):=by kernel_rfl
theorem BE (n:Nat) (a:Nat):sfunG Tryz.prog (F9.tell [(14,false)]) M0 80 Tryz.f55 (ag Tryz.f55) [bv n,bv a]=some ([IsB (bv a),(!(rdE (aj (bv a)) == 0))=false,IsB (bv n)∧IsP (pv (rdP (aj (bv a)))),IsP (pv (dy (aj (bv n)) (p4 (pv (rdP (aj (bv a)))))))],.tuple #[bv (wrN (p4 (pv (dy (aj (bv n)) (p4 (pv (rdP (aj (bv a))))))))),.int .i64 0]):=by kernel_rfl
def gf (n:Nat) (a:Nat):Nat:=if bG a then wrN (dy n (rdP a)) else 0
theorem EN (n:Nat) (a:Nat) (hn:n<RN) (ha:a<RN) (w:World) (hw:Glo M0 w):Calls Tryz.prog 55 #[bv n,bv a] w fun e w'=>e = .returned (.tuple #[bv (gf n a),.int .i64 (rdE a)])∧Below w.heap.size w w':=by
 cases hk:bG a
 ·have r:=Av n a
  rw [au ha,gG hk] at r
  rw [gG hk]
  unfold gf
  rw [hk,if_neg Bool.false_ne_true]
  exact aD (Cx.tell_ok iI _) mixed aO (by kernel_rfl) Tryz.func55 (by kernel_rfl) r (al (aI _) (al rfl al0)) (by simp [aC]) (.inl (bE _ _)) w hw
 ·have r:=BE n a
  rw [au ha,au hn,cY (ep a),cY (ja n (rdP a)),eS hk] at r
  rw [eS hk]
  unfold gf
  rw [hk,if_pos rfl]
  exact aD (Cx.tell_ok iI _) mixed aO (by kernel_rfl) Tryz.func55 (by kernel_rfl) r (al (aI _) (al rfl (al ⟨aI _,cg (ep a)⟩ (al (cg (ja _ _)) al0)))) (by simp [aC]) (.inl (bE _ _)) w hw
def gPml:List Value→Option (List Prop × Value)
 | [A,B]=>some ([IsB A∧IsB B],.tuple #[bv (gf (aj A) (aj B)),.int .i64 (rdE (aj B))])
 | _=>none
theorem Fm {X:Cx} (hX:X.Ok Tryz.prog) (hc:bp M0 X.gl=true):(X.var M0 55 gPml).Ok Tryz.prog:=by
 refine bW hX aO hc Tryz.func55 (by kernel_rfl) (by kernel_rfl) ?_
 intro args ps v ha hg hp
 unfold gPml at hg
 split at hg
 ·rename_i A B
  simp only [qG,qH] at hg
  obtain ⟨rfl,rfl⟩:=hg
  obtain ⟨hA,hB⟩:=hp _ (List.mem_singleton.2 rfl)
  refine ⟨.inl (bE _ _),fun w hw => ?_⟩
  have h:=EN (aj A) (aj B) (aQ hA) (aQ hB) w hw
  rw [← (show A=bv (aj A) from hA),← (show B=bv (aj B) from hB)] at h
  exact h
 ·simp at hg
theorem BL (a:Nat):sfunG Tryz.prog (F9.tell [(12,true)]) M0 80 Tryz.f35 (ag Tryz.f35) [bv a]=some ([IsB (bv a),(!(rdE (aj (bv a)) == 0))=true],.tuple #[bv 0,.int .i64 (rdE (aj (bv a)))]):=by kernel_rfl
theorem Cw (a:Nat):sfunG Tryz.prog (F9.tell [(12,false)]) M0 80 Tryz.f35 (ag Tryz.f35) [bv a]=some ([IsB (bv a),(!(rdE (aj (bv a)) == 0))=false,IsP (pv (rdP (aj (bv a)))),IsP (pv (dS (p4 (pv (rdP (aj (bv a))))))),IsP (pv (dS (p4 (pv (dS (p4 (pv (rdP (aj (bv a)))))))))),IsP (pv (dS (p4 (pv (dS (p4 (pv (dS (p4 (pv (rdP (aj (bv a)))))))))))))],.tuple #[bv (wrN (p4 (pv (dS (p4 (pv (dS (p4 (pv (dS (p4 (pv (rdP (aj (bv a))))))))))))))),.int .i64 0]):=by kernel_rfl
def rY (a:Nat):Nat:=if bG a then wrN (dS (dS (dS (rdP a)))) else 0
theorem Ft (a:Nat) (ha:a<RN) (w:World) (hw:Glo M0 w):Calls Tryz.prog 35 #[bv a] w fun e w'=>e = .returned (.tuple #[bv (rY a),.int .i64 (rdE a)])∧Below w.heap.size w w':=by
 cases hk:bG a
 ·have r:=BL a
  rw [au ha,gG hk] at r
  rw [gG hk]
  unfold rY
  rw [hk,if_neg Bool.false_ne_true]
  exact aD (Cx.tell_ok iI _) mixed aO (by kernel_rfl) Tryz.func35 (by kernel_rfl) r (al (aI _) (al rfl al0)) (by simp [aC]) (.inl (bE _ _)) w hw
 ·have r:=Cw a
  rw [au ha,cY (ep a),cY (dx (rdP a)),cY (dx (dS (rdP a))),cY (dx (dS (dS (rdP a)))),eS hk] at r
  rw [eS hk]
  unfold rY
  rw [hk,if_pos rfl]
  exact aD (Cx.tell_ok iI _) mixed aO (by kernel_rfl) Tryz.func35 (by kernel_rfl) r (al (aI _) (al rfl (al (cg (ep a)) (al (cg (dx _)) (al (cg (dx _)) (al (cg (dx _)) al0)))))) (by simp [aC]) (.inl (bE _ _)) w hw
theorem Dg (a:Nat) (b:Nat):sfunG Tryz.prog (F9.tell [(15,true)]) M0 80 Tryz.f81 (ag Tryz.f81) [bv a,bv b]=some ([IsB (bv a),(!(rdE (aj (bv a)) == 0))=true],.tuple #[bv 0,.int .i64 (rdE (aj (bv a)))]):=by kernel_rfl
theorem Bp (a:Nat) (b:Nat):sfunG Tryz.prog (F9.tell [(15,false),(24,true)]) M0 80 Tryz.f81 (ag Tryz.f81) [bv a,bv b]=some ([IsB (bv a),(!(rdE (aj (bv a)) == 0))=false,IsB (bv b),(!(rdE (aj (bv b)) == 0))=true],.tuple #[bv 0,.int .i64 (rdE (aj (bv b)))]):=by kernel_rfl
theorem BZ (a:Nat) (b:Nat):sfunG Tryz.prog (F9.tell [(15,false),(24,false)]) M0 80 Tryz.f81 (ag Tryz.f81) [bv a,bv b]=some ([IsB (bv a),(!(rdE (aj (bv a)) == 0))=false,IsB (bv b),(!(rdE (aj (bv b)) == 0))=false,IsP (pv (rdP (aj (bv a))))∧IsP (pv (rdP (aj (bv b)))),IsP (pv (jF (p4 (pv (rdP (aj (bv a))))) (p4 (pv (rdP (aj (bv b)))))))],.tuple #[bv (wrN (p4 (pv (jF (p4 (pv (rdP (aj (bv a))))) (p4 (pv (rdP (aj (bv b))))))))),.int .i64 0]):=by kernel_rfl
def addN (a b:Nat):Nat:=if bG a && bG b then wrN (jF (rdP a) (rdP b)) else 0
def zx (a b:Nat):Int:=if bG a && bG b then 0 else 2
theorem DY (a:Nat) (b:Nat) (ha:a<RN) (hb:b<RN) (w:World) (hw:Glo M0 w):Calls Tryz.prog 81 #[bv a,bv b] w fun e w'=>e = .returned (.tuple #[bv (addN a b),.int .i64 (zx a b)])∧Below w.heap.size w w':=by
 cases hka:bG a
 ·have r:=Dg a b
  rw [au ha,gG hka] at r
  unfold addN zx
  rw [hka,Bool.false_and,if_neg Bool.false_ne_true,if_neg Bool.false_ne_true]
  exact aD (Cx.tell_ok iI _) mixed aO (by kernel_rfl) Tryz.func81 (by kernel_rfl) r (al (aI _) (al rfl al0)) (by simp [aC]) (.inl (bE _ _)) w hw
 ·cases hkb:bG b
  ·have r:=Bp a b
   rw [au ha,au hb,eS hka,gG hkb] at r
   unfold addN zx
   rw [hka,hkb,Bool.true_and,if_neg Bool.false_ne_true,if_neg Bool.false_ne_true]
   exact aD (Cx.tell_ok iI _) mixed aO (by kernel_rfl) Tryz.func81 (by kernel_rfl) r (al (aI _) (al rfl (al (aI _) (al rfl al0)))) (by simp [aC]) (.inl (bE _ _)) w hw
  ·have r:=BZ a b
   rw [au ha,au hb,eS hka,eS hkb,cY (ep a),cY (ep b),cY (lQ (rdP a) (rdP b))] at r
   unfold addN zx
   rw [hka,hkb,Bool.true_and,if_pos rfl,if_pos rfl]
   exact aD (Cx.tell_ok iI _) mixed aO (by kernel_rfl) Tryz.func81 (by kernel_rfl) r (al (aI _) (al rfl (al (aI _) (al rfl (al ⟨cg (ep a),cg (ep b)⟩ (al (cg (lQ _ _)) al0)))))) (by simp [aC]) (.inl (bE _ _)) w hw
def KM:List Value→Option (List Prop × Value)
 | [A,B]=>some ([IsB A∧IsB B],.tuple #[bv (addN (aj A) (aj B)),.int .i64 (zx (aj A) (aj B))])
 | _=>none
theorem D6 {X:Cx} (hX:X.Ok Tryz.prog) (hc:bp M0 X.gl=true):(X.var M0 81 KM).Ok Tryz.prog:=by
 refine bW hX aO hc Tryz.func81 (by kernel_rfl) (by kernel_rfl) ?_
 intro args ps v ha hg hp
 unfold KM at hg
 split at hg
 ·rename_i A B
  simp only [qG,qH] at hg
  obtain ⟨rfl,rfl⟩:=hg
  obtain ⟨hA,hB⟩:=hp _ (List.mem_singleton.2 rfl)
  refine ⟨.inl (bE _ _),fun w hw => ?_⟩
  have h:=DY (aj A) (aj B) (aQ hA) (aQ hB) w hw
  rw [← (show A=bv (aj A) from hA),← (show B=bv (aj B) from hB)] at h
  exact h
 ·simp at hg
def F9g:Cx:=(F9.glo gl5).var M1 53 gGen
theorem H6:F9g.Ok Tryz.prog:=FI (Cx.glo_ok iI fun g h=>Lw h) (by kernel_rfl)
theorem ym:tp.ok:=B9 (by decide) (by decide)
def u9 (n:Nat):Nat:=wrN (dy n tp)
theorem FW (n:Nat):sfunG Tryz.prog F9g M1 80 Tryz.f18 (ag Tryz.f18) [bv n]=some ([IsB (bv n)∧IsP (pv tp),IsP (pv (dy (aj (bv n)) (p4 (pv tp))))],bv (wrN (p4 (pv (dy (aj (bv n)) (p4 (pv tp))))))):=by kernel_rfl
theorem yd (n:Nat) (hn:n<RN) (w:World) (hw:Glo M1 w):Calls Tryz.prog 18 #[bv n] w fun e w'=>e = .returned (bv (u9 n))∧Below w.heap.size w w':=by
 have r:=FW n
 rw [au hn,cY ym,cY (ja _ _)] at r
 exact aD H6 mixed lO (by kernel_rfl) Tryz.func18 (by kernel_rfl) r (al ⟨aI _,cg ym⟩ (al (cg (ja _ _)) al0)) (by simp [aC]) (.inl (aC _)) w hw
def Lk:List Value→Option (List Prop × Value)
 | [A]=>some ([IsB A],bv (u9 (aj A)))
 | _=>none
theorem Fj {X:Cx} (hX:X.Ok Tryz.prog) (hc:bp M1 X.gl=true):(X.var M1 18 Lk).Ok Tryz.prog:=by
 refine bW hX lO hc Tryz.func18 (by kernel_rfl) (by kernel_rfl) ?_
 intro args ps v ha hg hp
 unfold Lk at hg
 split at hg
 ·rename_i A
  simp only [qG,qH] at hg
  obtain ⟨rfl,rfl⟩:=hg
  have hA:=hp _ (List.mem_singleton.2 rfl)
  refine ⟨.inl (aC _),fun w hw => ?_⟩
  have h:=yd (aj A) (aQ hA) w hw
  rw [← (show A=bv (aj A) from hA)] at h
  exact h
 ·simp at hg
end Go.Proofs.YtajehiidpecknaaGreatDoor
namespace Go.Proofs.YtajehiidpecknaaGreatDoor
open Go
def cP (p:P4):E4 KK:=⟨cK p.x,cK p.y,cK p.z,cK p.t⟩
theorem wo (a b:Nat):cK (fad a b)=cK a+cK b:=Co a b
theorem qO (a b:Nat):cK (fsb a b)=cK a - cK b:=C9 a b
theorem fJ (a b:Nat):cK (fml a b)=cK a*cK b:=eV a b
theorem vV (a:Nat):cK (fiv a)=lJ (cK a):=(xU a).symm
theorem BN (x xu y yu:Nat):cP (mV x xu y yu)=vx (cK x) (cK xu) (cK y) (cK yu):=by
 unfold cP mV vx
 simp only [fJ]
theorem Cf (a b:P4):cP (jF a b)=zl DK (cP a) (cP b):=by
 unfold jF
 simp only [BN]
 unfold zl cP
 simp only [fJ,wo,qO]
 rfl
theorem jy (a:P4):cP (dS a)=IQ (cP a):=by
 unfold dS
 simp only [BN]
 unfold IQ cP
 simp only [fJ,wo,qO]
theorem Bi:cP ia=Fv:=by
 unfold ia Fv cP
 simp only [qy,nc]
theorem xt (x y:Nat):cP (atN x y)=atE (cK x) (cK y):=by
 unfold atN atE cP
 simp only [fJ,nc]
abbrev PT:Type:=Pt DK
abbrev zD (p q:PT):PT:=p.add FK q
abbrev eU (n:Nat) (p:PT):PT:=p.smul FK n
theorem GG {a:P4} {p:PT} (h:Rep (cP a) p):Rep (cP (wN a)) (eU 16 p):=by
 unfold wN
 rw [jy,jy,jy,jy]
 show Rep _ (Pt.smul FK 16 p)
 rw [Pt.dbl16]
 exact gL FK (gL FK (gL FK (gL FK h)))
theorem qk {a:P4} {p:PT} (h:Rep (cP a) p) : ∀ i,Rep (cP (muN a i)) (eU i p)
 | 0=>by
  show Rep (cP ia) (Pt.zero DK)
  rw [Bi];exact xK FK
 | i+1=>by
  show Rep (cP (jF (muN a i) a)) ((eU i p).add FK p)
  rw [Cf];exact rN FK (qk h i) h
theorem tA {t q:P4} {p:PT} {m d:Nat} (ht:Rep (cP t) (eU m p)) (hq:Rep (cP q) (eU d p)):Rep (cP (gX t q)) (eU (16*m+d) p):=by
 unfold gX
 rw [Cf]
 have:=rN FK (GG ht) hq
 show Rep _ (Pt.smul FK (16*m+d) p)
 rw [Pt.smul_add,Pt.smul_mul]
 exact this
theorem Aj {a:P4} {p:PT} (h:Rep (cP a) p) (n:Nat) (hn:n<RN) : ∀ j,j≤32→Rep (cP (tmR a n j)) (eU (n/256 ^ (32 - j)) p)
 | 0,_=>by
  have:n/256 ^ (32 - 0)=0:=Nat.div_eq_of_lt (by rw [Nat.sub_zero];exact Nat.lt_of_lt_of_le hn (by decide))
  rw [this]
  exact qk h 0
 | j+1,hj=>by
  have ih:=Aj h n hn j (by omega)
  have e:n/256 ^ (32 - (j+1))=16*(16*(n/256 ^ (32 - j))+n/256 ^ (31 - j) % 256/16)+n/256 ^ (31 - j) % 256 % 16:=by
   have e1:32 - j=(31 - j)+1:=by omega
   have e2:32 - (j+1)=31 - j:=by omega
   rw [e1,e2,Nat.pow_succ,←Nat.div_div_eq_div_mul]
   generalize n/256 ^ (31 - j)=z
   omega
  rw [e]
  exact tA (tA ih (qk h _)) (qk h _)
theorem gA {a:P4} {p:PT} (h:Rep (cP a) p) (n:Nat) (hn:n<RN):Rep (cP (dy n a)) (eU n p):=by
 have:=Aj h n hn 32 (Nat.le_refl _)
 rw [Nat.sub_self,Nat.pow_zero,Nat.div_one] at this
 exact this
def enc (p:PT):Nat:=p.y.val+p.x.val % 2*TT
theorem m8 {a:Nat} {k:KK} (h:a<pp) (e:cK a=k):a=k.val:=by
 rw [←e,eB,Nat.mod_eq_of_lt h]
theorem mC {a:P4} {p:PT} (h:Rep (cP a) p):wrN a=enc p:=by
 obtain ⟨h1,h2,h3,_⟩:=h
 have hz:cK a.z≠0:=h1
 have iv:=FK.inv _ hz
 have hx:cK a.x=p.x*cK a.z:=h2
 have hy:cK a.y=p.y*cK a.z:=h3
 have kx:cK (wx a)=p.x:=by
  unfold wx;rw [fJ,vV,hx]
  have:=gI p.x (cK a.z) (lJ (cK a.z))
  rw [this,iv,kg]
 have ky:cK (wy a)=p.y:=by
  unfold wy;rw [fJ,vV,hy]
  have:=gI p.y (cK a.z) (lJ (cK a.z))
  rw [this,iv,kg]
 unfold wrN enc
 rw [←m8 (fL _ _) kx,←m8 (fL _ _) ky]
 rfl
section
variable {d:KK} {inv:KK→KK}
theorem Hb (F:Fld d inv) (y:KK):1+d*(y*y)≠0:=fun h=>by
 obtain ⟨i,hi⟩:=F.root
 have h0:=F.nsq i y (by grind)
 apply F.one
 grind
theorem Dr {x y:KK} (h:On d x y):x*x*(1+d*(y*y))=y*y - 1:=by
 unfold On at h;grind
theorem Bu {x y:KK} (h:x*x*(1+d*(y*y))=y*y - 1):On d x y:=by
 unfold On;grind
theorem IU {x y:KK} (h:On d x y):On d (0 - x) y:=by unfold On at *;grind
theorem Di (F:Fld d inv) {x y:KK} (h:On d x y):(y*y - 1)*inv (1+d*(y*y))=x*x:=by
 have h1:=Dr h
 have h2:=F.inv _ (Hb F y)
 generalize inv (1+d*(y*y))=z at *
 rw [←h1]
 grind
theorem vf (F:Fld d inv) {x y:KK} (h:x*x=(y*y - 1)*inv (1+d*(y*y))):On d x y:=by
 have h2:=F.inv _ (Hb F y)
 generalize inv (1+d*(y*y))=z at *
 apply Bu
 rw [h]
 grind
theorem JZ (F:Fld d inv) {x z:KK} (h:x*x=z*z):x=z∨x=0 - z:=by
 have:(x - z)*(x+z)=0:=by grind
 rcases F.nz _ _ this with h | h
 ·left;grind
 ·right;grind
end
theorem mE (p:PT):enc p % TT=p.y.val:=by
 unfold enc
 rw [Nat.add_mul_mod_self_right]
 exact Nat.mod_eq_of_lt (Nat.lt_trans p.y.isLt im)
theorem jC (p:PT):enc p/TT=p.x.val % 2:=by
 unfold enc
 rw [Nat.add_mul_div_right _ _ (by decide),Nat.div_eq_of_lt (Nat.lt_trans p.y.isLt im),Nat.zero_add]
theorem vh (p:PT):enc p<RN:=by
 unfold enc
 have h1:p.y.val<TT:=Nat.lt_trans p.y.isLt im
 have h3:RN=TT+TT:=by decide
 rcases (by omega:p.x.val % 2=0∨p.x.val % 2=1) with h | h <;> rw [h] <;> omega
theorem Fc (k:KK) (h:k≠0):(0 - k).val=pp - k.val:=by
 have hk:k.val≠0:=fun e=>h (Fin.ext e)
 rw [Fin.sub_def]
 show (pp - k.val+0) % pp=_
 rw [Nat.add_zero]
 have:=k.isLt
 exact Nat.mod_eq_of_lt (by omega)
theorem AR:pp % 2=1:=by decide
theorem xy {p q:PT} (h:enc p=enc q):p=q:=by
 have hy:p.y=q.y:=Fin.ext (by rw [←mE,←mE,h])
 have ho:p.x.val % 2=q.x.val % 2:=by rw [←jC,←jC,h]
 have h1:=Di FK p.on
 have h2:=Di FK q.on
 rw [hy,h2] at h1
 rcases JZ FK h1.symm with e | e
 ·exact Pt.ext' e hy
 ·by_cases h0:q.x=0
  ·refine Pt.ext' ?_ hy
   rw [e,h0];rfl
  ·exfalso
   have:=Fc q.x h0
   rw [e,this] at ho
   have hl:=q.x.isLt
   have:=AR
   omega
theorem Cv (y:Nat):cK (sxN y)=(cK y*cK y - 1)*lJ (1+DK*(cK y*cK y)):=by
 unfold sxN
 rw [fJ,qO,fJ,vV,wo,fJ,fJ,nc]
 rfl
theorem ic {s:Nat} : sqe s=0↔rt s*rt s % pp=s % pp:=by
 unfold sqe
 split
 ·rename_i h;exact ⟨fun _=>h,fun _=>rfl⟩
 ·rename_i h;exact ⟨fun e=>absurd e (by decide),fun e=>absurd e h⟩
theorem my (n:Nat):bG n=true↔n % TT<pp∧sqe (sxN (n % TT))=0 ∧ ¬ (TT≤n∧eA n=0):=by
 unfold bG gY
 simp only [Bool.and_eq_true,decide_eq_true_eq,Bool.not_eq_true',Bool.and_eq_false_iff,decide_eq_false_iff_not]
 constructor
 ·rintro ⟨h1,h2,h3⟩
  exact ⟨h1,h2,fun ⟨a,b⟩=>by rcases h3 with h | h;exact h a;exact h b⟩
 ·rintro ⟨h1,h2,h3⟩
  refine ⟨h1,h2,?_⟩
  by_cases ht:TT≤n
  ·exact .inr fun e=>h3 ⟨ht,e⟩
  ·exact .inl ht
theorem nJ {n:Nat} (hn:n<RN) (h:bG n=true) : ∃ p:PT,enc p=n∧Rep (cP (rdP n)) p:=by
 obtain ⟨h1,h2,h3⟩:=(my n).1 h
 have hs:=ic.1 h2
 have hr:eA n=ev (rt (sxN (n % TT))):=by
  unfold eA sqv;rw [if_pos hs]
 have lt:=xP (sxN (n % TT))
 have hr1:eA n<pp:=by rw [hr];exact Lm _ lt
 have hr2:eA n % 2=0:=by rw [hr];exact GH _ lt
 have hr3:eA n*eA n % pp=sxN (n % TT) % pp:=by rw [hr,Hr _ lt,hs]
 have hK:cK (eA n)*cK (eA n)=(cK (n % TT)*cK (n % TT) - 1)*lJ (1+DK*(cK (n % TT)*cK (n % TT))):=by
  rw [←Cv,←eV,hr3,mG]
 have on0:=vf FK hK
 have onx:On DK (cK (rdX n)) (cK (n % TT)):=by
  unfold rdX
  split
  ·rw [qO,qy];exact IU on0
  ·exact on0
 refine ⟨⟨cK (rdX n),cK (n % TT),onx⟩,?_,?_⟩
 ·unfold enc
  simp only
  have hxl:rdX n<pp:=by
   unfold rdX
   split
   ·exact rS _ _
   ·exact hr1
  rw [eB,eB,Nat.mod_eq_of_lt h1,Nat.mod_eq_of_lt hxl]
  have h4:RN=TT+TT:=by decide
  by_cases ht:TT≤n
  ·have hz : ¬ eA n=0:=fun e=>h3 ⟨ht,e⟩
   have e1:rdX n=pp - eA n:=by
    unfold rdX gY
    rw [decide_eq_true ht,if_pos rfl]
    unfold fsb
    rw [Nat.zero_add,Nat.mod_eq_of_lt hr1,Nat.mod_eq_of_lt (by omega)]
   have:=AR
   have e2:rdX n % 2=1:=by rw [e1];omega
   rw [e2,Nat.one_mul]
   have:n % TT=n - TT:=by rw [Nat.mod_eq_sub_mod ht,Nat.mod_eq_of_lt (by omega)]
   omega
  ·have e1:rdX n=eA n:=by
    unfold rdX gY
    rw [decide_eq_false ht,if_neg Bool.false_ne_true]
   rw [e1,hr2,Nat.zero_mul,Nat.add_zero]
   exact Nat.mod_eq_of_lt (by omega)
 ·unfold rdP
  rw [h,if_pos rfl,xt]
  exact wW FK (⟨cK (rdX n),cK (n % TT),onx⟩:PT)
theorem kL (p:PT):bG (enc p)=true:=by
 have hy:=mE p
 have ky:cK (enc p % TT)=p.y:=by rw [hy];exact uY _
 have ks:cK (sxN (enc p % TT))=p.x*p.x:=by rw [Cv,ky];exact Di FK p.on
 have hs:sxN (enc p % TT)=p.x.val*p.x.val % pp:=by
  have:=m8 (fL _ _) ks
  rw [Fin.val_mul] at this
  exact this
 have hr:=EG p.x.val _ hs
 rw [my]
 refine ⟨by rw [hy];exact p.y.isLt,ic.2 hr,?_⟩
 rintro ⟨ht,hz⟩
 have hodd:p.x.val % 2=1:=by
  rw [←jC]
  have h4:RN=TT*2:=by decide
  have hl:=vh p
  have h1:enc p/TT<2:=by rw [Nat.div_lt_iff_lt_mul (by decide)];omega
  have h2:1≤enc p/TT:=by rw [Nat.le_div_iff_mul_le (by decide)];omega
  omega
 have hz':ev (rt (sxN (enc p % TT)))=0:=by
  unfold eA sqv at hz
  rw [if_pos hr] at hz
  exact hz
 have e:=Hr _ (xP (sxN (enc p % TT)))
 rw [hz',hr,Nat.mul_zero,Nat.zero_mod] at e
 have k0:p.x*p.x=0:=by rw [←ks];exact gU.2 e.symm
 have:p.x=0:=by
  rcases FK.nz _ _ k0 with h | h <;> exact h
 rw [this] at hodd
 exact absurd hodd (by decide)
theorem qz (p:PT):Rep (cP (rdP (enc p))) p:=by
 obtain ⟨q,h1,h2⟩:=nJ (vh p) (kL p)
 rw [←xy h1];rw [xy h1] at h2 ⊢;exact h2
def BP:PT:=⟨cK GX,cK GY,by unfold On DK;decide +kernel⟩
theorem GD:Rep (cP tp) BP:=by
 unfold tp
 rw [xt]
 exact wW FK BP
theorem HU:enc BP=GY:=by decide +kernel
theorem qu (n:Nat) (hn:n<RN) (p:PT):gf n (enc p)=enc (eU n p):=by
 unfold gf
 rw [kL,if_pos rfl]
 exact mC (gA (qz p) n hn)
theorem qN (n:Nat) (hn:n<RN):u9 n=enc (eU n BP):=mC (gA GD n hn)
theorem xF (p:PT):rY (enc p)=enc (eU 8 p):=by
 unfold rY
 rw [kL,if_pos rfl]
 refine mC ?_
 rw [jy,jy,jy]
 show Rep _ (Pt.smul FK 8 p)
 rw [Pt.dbl8]
 exact gL FK (gL FK (gL FK (qz p)))
theorem GC (p:PT):rdE (enc p)=0:=eS (kL p)
end Go.Proofs.YtajehiidpecknaaGreatDoor
