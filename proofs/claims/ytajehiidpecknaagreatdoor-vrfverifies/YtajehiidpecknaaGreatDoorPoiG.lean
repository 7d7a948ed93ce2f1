import Derived.Test.YtajehiidpecknaaGreatDoorFieT
import Derived.Test.YtajehiidpecknaaGreatDoorPoiE
set_option linter.all false
namespace Go.Proofs.YtajehiidpecknaaGreatDoor
open Go Go.RowKit
def gSqF:List Value→Option (List Prop × Value)
 | [A]=>some ([IsB A],.tuple #[bv (sqv (aj A)),.int .i64 (sqe (aj A))])
 | _=>none
theorem bu (n:Nat) (e:Int):flat (.tuple #[bv n,.int .i64 e])=true:=by
 show ([bv n,.int .i64 e].all flat2)=true
 have:flat2 (bv n)=true:=aE n
 rw [List.all_cons,this];rfl
theorem qL (p:P4) (e:Int):flat (.tuple #[pv p,.int .i64 e])=true:=by
 show ([pv p,.int .i64 e].all flat2)=true
 have:flat2 (pv p)=true:=bg p
 rw [List.all_cons,this];rfl
theorem Gw {X:Cx} (hX:X.Ok Tryz.prog):(X.pure 111 gSqF).Ok Tryz.prog:=by
 refine aC hX Tryz.func111 (by kernel_rfl) (by kernel_rfl) ?_
 intro args ps v ha hg hp
 unfold gSqF at hg
 split at hg
 ·rename_i A
  simp only [qG,qH] at hg
  obtain ⟨rfl,rfl⟩:=hg
  have hA:=hp _ (YJ.2 rfl)
  refine ⟨.inl (bu _ _),fun w => ?_⟩
  have h:=DL (aj A) (aS hA) w
  rw [← (show A=bv (aj A) from hA)] at h
  exact h
 ·simp at hg
def F6:Cx:=F5.pure 111 gSqF
theorem lv:F6.Ok Tryz.prog:=Gw nP
def sxN (y:Nat):Nat:=fml (fsb (fml y y) 1) (fiv (fad 1 (fml DN' (fml y y))))
def sqV (y:Nat):Value:=ML (bv y) (bv y)
def dvV (y:Nat):Value:=AD (bv 1) (ML (bv DN') (sqV y))
theorem Jq (y:Nat):sfunG Tryz.prog F6 M0 60 Tryz.f112 (ag Tryz.f112) [bv y]=some ([IB (bv y) (bv y),IB (bv DN') (sqV y),IB (bv 1) (ML (bv DN') (sqV y)),IB (sqV y) (bv 1),IsB (dvV y),IB (SB (sqV y) (bv 1)) (IV (dvV y))],ML (SB (sqV y) (bv 1)) (IV (dvV y))):=by kernel_rfl
theorem Ii {y:Nat} (h:y<RN):ML (SB (sqV y) (bv 1)) (IV (dvV y))=bv (sxN y):=by
 have h1:sqV y=bv (fml y y):=de _ _ h h
 have h2:dvV y=bv (fad 1 (fml DN' (fml y y))):=by unfold dvV;rw [h1,de _ _ (by decide) (fJ _ _),dU _ _ (by decide) (fJ _ _)]
 rw [h1,h2,fv _ _ (fJ _ _) (by decide),yE _ (ma _ _),de _ _ (oa _ _) (J6 _)]
 rfl
def Kb:List Value→Option (List Prop × Value)
 | [A]=>some ([IsB A],bv (sxN (aj A)))
 | _=>none
theorem EM {X:Cx} (hX:X.Ok Tryz.prog) (hc:bm M0 X.gl=true):(X.var M0 112 Kb).Ok Tryz.prog:=by
 refine bM hX aO hc Tryz.func112 (by kernel_rfl) (by kernel_rfl) ?_
 intro args ps v ha hg hp
 unfold Kb at hg
 split at hg
 ·rename_i A
  simp only [qG,qH] at hg
  obtain ⟨rfl,rfl⟩:=hg
  have hA:=hp _ (YJ.2 rfl)
  refine ⟨.inl (aE _),fun w hw => ?_⟩
  have run:=Jq (aj A)
  rw [Ii (aS hA)] at run
  have h:=aD lv mixed aO (by kernel_rfl) Tryz.func112 (by kernel_rfl) run (by
   intro p hp
   simp only [List.mem_cons,List.not_mem_nil,or_false] at hp
   rcases hp with rfl | rfl | rfl | rfl | rfl | rfl <;> first | exact ib | exact aI _) (by simp [aE]) (.inl (aE _)) w hw
  rw [← (show A=bv (aj A) from hA)] at h
  exact h
 ·simp at hg
def F7:Cx:=F6.var M0 112 Kb
theorem Bp:F7.Ok Tryz.prog:=EM lv (by kernel_rfl)
def TT:Nat:=57896044618658097711785492504343953926634992332820282019728792003956564819968
theorem jN:TT=256 ^ 31*128:=by decide
def dK (n:Nat):Value := .agg ((bl n).take 31 ++ [Value.int .u8 (bits .andNot .u8 (by8 n 31) 128)]).toArray
def IH (n:Nat):Value := .agg ((bl n).take 31 ++ [Value.int .u8 (bits .or .u8 (by8 n 31) 128)]).toArray
theorem iO : ∀ y:Fin 256,bits .andNot .u8 ((y.val:Nat):Int) 128=((y.val % 128:Nat):Int)∧(!(bits .and .u8 ((y.val:Nat):Int) 128 == 0))=decide (128≤y.val)∧bits .or .u8 ((y.val:Nat):Int) 128=((y.val % 128+128:Nat):Int)∧(bits .and .u8 ((y.val:Nat):Int) 1 == 1)=decide (y.val % 2=1):=by decide +kernel
theorem nk (n:Nat):bl n=(bl n).take 31 ++ [.int .u8 (by8 n 31)]:=by
 unfold bl
 rw [show (32:Nat)=31+1 from rfl,List.range_succ,List.map_append,List.take_left' (by simp)]
 rfl
theorem kd {m n:Nat} (h:m % 256 ^ 31=n % 256 ^ 31):(bl m).take 31=(bl n).take 31:=by
 unfold bl
 rw [←List.map_take,←List.map_take,List.take_range]
 refine List.map_congr_left fun i hi => ?_
 have hi:i<31:=by simpa using hi
 rw [←j9 m 31 i hi,←j9 n 31 i hi,h]
theorem mJ (n:Nat) (h:n<RN):dK n=bv (n % TT):=by
 unfold dK bv br
 rw [nk (n % TT)]
 have hb:n/256 ^ 31 % 256<256:=Nat.mod_lt _ (by decide)
 have e1:by8 n 31=((n/256 ^ 31 % 256:Nat):Int):=rfl
 have o:=(iO ⟨n/256 ^ 31 % 256,hb⟩).1
 simp only at o
 have e2:by8 (n % TT) 31=((n/256 ^ 31 % 256 % 128:Nat):Int):=by
  unfold by8
  rw [jN,Nat.mod_mul_right_div_self]
  congr 1
  omega
 rw [e1,o,e2,kd (m:=n % TT) (n:=n) (by rw [jN,Nat.mod_mul_right_mod])]
theorem rH (n:Nat) (h:n<TT):IH n=bv (n+TT):=by
 unfold IH bv br
 rw [nk (n+TT)]
 have hb:n/256 ^ 31 % 256<256:=Nat.mod_lt _ (by decide)
 have e1:by8 n 31=((n/256 ^ 31 % 256:Nat):Int):=rfl
 have o:=(iO ⟨n/256 ^ 31 % 256,hb⟩).2.2.1
 simp only at o
 have hl:n/256 ^ 31<128:=by rw [Nat.div_lt_iff_lt_mul (by decide),Nat.mul_comm,←jN];exact h
 have e2:by8 (n+TT) 31=((n/256 ^ 31 % 256 % 128+128:Nat):Int):=by
  unfold by8
  rw [jN,Nat.add_mul_div_left _ _ (by decide)]
  congr 1
  omega
 rw [e1,o,e2,kd (m:=n+TT) (n:=n) (by rw [jN,Nat.add_mul_mod_self_left])]
def ivV (p:P4):Value:=IV (bv p.z)
def wx (p:P4):Nat:=fml p.x (fiv p.z)
def wy (p:P4):Nat:=fml p.y (fiv p.z)
def wxS (p:P4):Nat:=fml (aj (bv p.x)) (aj (ivV p))
def wyS (p:P4):Nat:=fml (aj (bv p.y)) (aj (ivV p))
theorem EV (p:P4):sfunG Tryz.prog (F7.tell [(20,false)]) M0 60 Tryz.f51 (ag Tryz.f51) [pv p]=some ([IsB (bv p.z),IB (bv p.x) (ivV p),IB (bv p.y) (ivV p),(bits .and .u8 (by8 (wxS p) 0) 1 == 1)=false],bv (wyS p)):=by kernel_rfl
theorem Gm (p:P4):sfunG Tryz.prog (F7.tell [(20,true)]) M0 60 Tryz.f51 (ag Tryz.f51) [pv p]=some ([IsB (bv p.z),IB (bv p.x) (ivV p),IB (bv p.y) (ivV p),(bits .and .u8 (by8 (wxS p) 0) 1 == 1)=true],IH (wyS p)):=by kernel_rfl
def wrN (p:P4):Nat:=wy p+wx p % 2*TT
theorem fj:pp<TT:=by decide
theorem rJ (p:P4):wrN p<RN:=by
 have h1:wy p<TT:=Nat.lt_trans (eZ _ _) fj
 have h2:wx p % 2<2:=Nat.mod_lt _ (by decide)
 have h3:RN=TT+TT:=by decide
 unfold wrN
 rcases (by omega:wx p % 2=0∨wx p % 2=1) with h | h <;> rw [h] <;> omega
theorem yY {p:P4} (lp:p.ok) (w:World) (hw:Glo M0 w):Calls Tryz.prog 51 #[pv p] w fun e w'=>e = .returned (bv (wrN p))∧Below w.heap.size w w':=by
 have e1:ivV p=bv (fiv p.z):=yE _ lp.z
 have e2:wxS p=wx p:=by unfold wxS wx;rw [e1,ao lp.x,ao (J6 _)]
 have e3:wyS p=wy p:=by unfold wyS wy;rw [e1,ao lp.y,ao (J6 _)]
 have hb:wx p/256 ^ 0 % 256<256:=Nat.mod_lt _ (by decide)
 have o:=(iO ⟨wx p/256 ^ 0 % 256,hb⟩).2.2.2
 simp only at o
 have o:(bits .and .u8 (by8 (wx p) 0) 1 == 1)=decide (wx p % 2=1):=by
  show (bits .and .u8 ((wx p/256 ^ 0 % 256:Nat):Int) 1 == 1)=_
  rw [o,decide_eq_decide,Nat.pow_zero,Nat.div_one,Nat.mod_mod_of_dvd _ (by decide)]
 have hwy:wy p<TT:=Nat.lt_trans (eZ _ _) fj
 have r0:=EV p
 have r1:=Gm p
 rw [e2,e3,e1] at r0 r1
 rw [o] at r0 r1
 by_cases h:wx p % 2=1
 ·have k:=aD (Cx.tell_ok Bp _) mixed aO (by kernel_rfl) Tryz.func51 (by kernel_rfl) r1 (by
   intro p hp
   simp only [List.mem_cons,List.not_mem_nil,or_false] at hp
   rcases hp with rfl | rfl | rfl | rfl
   ·exact aI _
   ·exact ib
   ·exact ib
   ·exact decide_eq_true h) (by simp [bg]) (.inl (by rw [rH _ hwy];exact aE _)) w hw
  rw [rH _ hwy] at k
  unfold wrN
  rw [h,Nat.one_mul]
  exact k
 ·have k:=aD (Cx.tell_ok Bp _) mixed aO (by kernel_rfl) Tryz.func51 (by kernel_rfl) r0 (by
   intro p hp
   simp only [List.mem_cons,List.not_mem_nil,or_false] at hp
   rcases hp with rfl | rfl | rfl | rfl
   ·exact aI _
   ·exact ib
   ·exact ib
   ·exact decide_eq_false h) (by simp [bg]) (.inl (aE _)) w hw
  have h0:wx p % 2=0:=by omega
  unfold wrN
  rw [h0,Nat.zero_mul,Nat.add_zero]
  exact k
def gWr:List Value→Option (List Prop × Value)
 | [A]=>some ([IsP A],bv (wrN (p4 A)))
 | _=>none
theorem Ip {X:Cx} (hX:X.Ok Tryz.prog) (hc:bm M0 X.gl=true):(X.var M0 51 gWr).Ok Tryz.prog:=by
 refine bM hX aO hc Tryz.func51 (by kernel_rfl) (by kernel_rfl) ?_
 intro args ps v ha hg hp
 unfold gWr at hg
 split at hg
 ·rename_i A
  simp only [qG,qH] at hg
  obtain ⟨rfl,rfl⟩:=hg
  obtain ⟨hA,lA⟩:=hp _ (YJ.2 rfl)
  refine ⟨.inl (aE _),fun w hw => ?_⟩
  have h:=yY lA w hw
  rw [←hA] at h
  exact h
 ·simp at hg
end Go.Proofs.YtajehiidpecknaaGreatDoor
namespace Go.Proofs.YtajehiidpecknaaGreatDoor
open Go Go.RowKit
def F8:Cx:=F7.var M0 51 gWr
theorem lZ:F8.Ok Tryz.prog:=Ip Bp (by kernel_rfl)
def kE (n:Nat):Bool := !(bits .and .u8 (by8 n 31) 128 == 0)
def ncB (n:Nat):Bool := !decide (aj (dK n)<pp)
def sxV (n:Nat):Nat:=aj (bv (sxN (aj (dK n))))
def rR (n:Nat):Bool := !(sqe (sxV n) == 0)
def rtV (n:Nat):Value:=bv (sqv (sxV n))
def zT (n:Nat):Bool:=eqB (bl (sqv (sxV n))).toArray (bl 0).toArray 32
def noP:P4:=⟨0,0,0,0⟩
theorem al0 : ∀ p ∈ ([]:List Prop),p:=fun _ h=>(by cases h)
theorem al {q:Prop} {l:List Prop} (hq:q) (h : ∀ p ∈ l,p) : ∀ p ∈ q :: l,p:=fun p hp=>by
 rcases List.mem_cons.1 hp with rfl | hp
 ·exact hq
 ·exact h p hp
theorem zo (n:Nat):sfunG Tryz.prog (F8.tell [(11,true),(19,true)]) M0 80 Tryz.f70 (ag Tryz.f70) [bv n]=some ([kE n=true,IsB (dK n),ncB n=true],.tuple #[pv noP,.int .i64 2]):=by kernel_rfl
theorem yR (n:Nat):sfunG Tryz.prog (F8.tell [(11,true),(19,false),(28,true)]) M0 80 Tryz.f70 (ag Tryz.f70) [bv n]=some ([kE n=true,IsB (dK n),ncB n=false,IsB (dK n),IsB (bv (sxN (aj (dK n)))),rR n=true],.tuple #[pv noP,.int .i64 2]):=by kernel_rfl
theorem vu (n:Nat):sfunG Tryz.prog (F8.tell [(11,false),(19,true)]) M0 80 Tryz.f70 (ag Tryz.f70) [bv n]=some ([kE n=false,IsB (dK n),ncB n=true],.tuple #[pv noP,.int .i64 2]):=by kernel_rfl
theorem vx (n:Nat):sfunG Tryz.prog (F8.tell [(11,false),(19,false),(28,true)]) M0 80 Tryz.f70 (ag Tryz.f70) [bv n]=some ([kE n=false,IsB (dK n),ncB n=false,IsB (dK n),IsB (bv (sxN (aj (dK n)))),rR n=true],.tuple #[pv noP,.int .i64 2]):=by kernel_rfl
theorem Nx (n:Nat):sfunG Tryz.prog (F8.tell [(11,true),(19,false),(28,false),(34,true)]) M0 80 Tryz.f70 (ag Tryz.f70) [bv n]=some ([kE n=true,IsB (dK n),ncB n=false,IsB (dK n),IsB (bv (sxN (aj (dK n)))),rR n=false,zT n=true],.tuple #[pv noP,.int .i64 2]):=by kernel_rfl
theorem Nc (n:Nat):sfunG Tryz.prog (F8.tell [(11,true),(19,false),(28,false),(34,false)]) M0 80 Tryz.f70 (ag Tryz.f70) [bv n]=some ([kE n=true,IsB (dK n),ncB n=false,IsB (dK n),IsB (bv (sxN (aj (dK n)))),rR n=false,zT n=false,IB (bv 0) (rtV n),IB (SB (bv 0) (rtV n)) (dK n)],.tuple #[pv (atN (aj (SB (bv 0) (rtV n))) (aj (dK n))),.int .i64 0]):=by kernel_rfl
theorem Ni (n:Nat):sfunG Tryz.prog (F8.tell [(11,false),(19,false),(28,false)]) M0 80 Tryz.f70 (ag Tryz.f70) [bv n]=some ([kE n=false,IsB (dK n),ncB n=false,IsB (dK n),IsB (bv (sxN (aj (dK n)))),rR n=false,IB (rtV n) (dK n)],.tuple #[pv (atN (aj (rtV n)) (aj (dK n))),.int .i64 0]):=by kernel_rfl
def im (n:Nat):Bool:=decide (TT≤n)
def eD (n:Nat):Nat:=sqv (sxN (n % TT))
def a7 (n:Nat):Bool:=decide (n % TT<pp) && (decide (sqe (sxN (n % TT))=0) && !(im n && decide (eD n=0)))
def rdX (n:Nat):Nat:=if im n then fsb 0 (eD n) else eD n
def rdP (n:Nat):P4:=if a7 n then atN (rdX n) (n % TT) else noP
def rdE (n:Nat):Int:=if a7 n then 0 else 2
theorem rK (a:Nat):sqv a<RN:=by
 unfold sqv
 split
 ·unfold ev
  have:=yk a
  have h2:pp<RN:=by decide
  split <;> omega
 ·decide
theorem ej (n:Nat):n % TT<RN:=Nat.lt_trans (Nat.mod_lt _ (by decide)) (by decide)
theorem I3 (y:Nat):sxN y<RN:=fJ _ _
theorem yy {n:Nat} (h:n<RN):kE n=im n:=by
 unfold kE im
 have hb:n/256 ^ 31 % 256<256:=Nat.mod_lt _ (by decide)
 have o:=(iO ⟨n/256 ^ 31 % 256,hb⟩).2.1
 simp only at o
 show (!(bits .and .u8 ((n/256 ^ 31 % 256:Nat):Int) 128 == 0))=_
 rw [o,decide_eq_decide]
 have h2:n/256 ^ 31<256:=by rw [Nat.div_lt_iff_lt_mul (by decide)];exact YI h (by decide)
 rw [YK h2,Nat.le_div_iff_mul_le (by decide),jN,Nat.mul_comm]
theorem C6 {n:Nat} (h:n<RN):ncB n = !decide (n % TT<pp):=by
 unfold ncB;rw [mJ n h,ao (ej n)]
theorem wW {n:Nat} (h:n<RN):sxV n=sxN (n % TT):=by
 unfold sxV;rw [mJ n h,ao (ej n),ao (I3 _)]
theorem xU {n:Nat} (h:n<RN):rR n = !decide (sqe (sxN (n % TT))=0):=by
 unfold rR;rw [wW h]
 by_cases e:sqe (sxN (n % TT))=0 <;> simp [e]
theorem AG {n:Nat} (h:n<RN):rtV n=bv (eD n):=by unfold rtV eD;rw [wW h]
theorem vP (m n:Nat) (hm:m<RN) (hn:n<RN):eqB (bl m).toArray (bl n).toArray 32=decide (m=n):=by
 have g : ∀ k i,i<32→iC (bl k).toArray i=by8 k i:=fun k i hi=>by
  unfold iC
  have:(bl k).toArray[i]? = some (.int .u8 (by8 k i)):=by simp [bl,hi]
  rw [this]
 unfold eqB
 by_cases h:m=n
 ·subst h
  rw [decide_eq_true rfl]
  exact List.all_eq_true.2 fun i _=>by simp
 ·rw [decide_eq_false h]
  apply Bool.eq_false_iff.2
  intro hall
  apply h
  have key:=xp (m:=m) (n:=n) 32 (fun i hi=>by
   have:=List.all_eq_true.1 hall i (List.mem_range.2 hi)
   rw [g m i hi,g n i hi] at this
   simpa using this)
  have e:256 ^ 32=RN:=by decide
  rw [e,YK hm,YK hn] at key
  exact key
theorem yB {n:Nat} (h:n<RN):zT n=decide (eD n=0):=by
 unfold zT;rw [wW h];exact vP _ 0 (rK _) (by decide)
theorem eG (n:Nat):(rdP n).ok:=by
 unfold rdP
 split
 ·refine Cb ?_ (ej n)
  unfold rdX
  split
  ·exact oa _ _
  ·exact rK _
 ·exact ⟨by decide,by decide,by decide,by decide⟩
theorem AE (n:Nat) (h:n<RN) (w:World) (hw:Glo M0 w):Calls Tryz.prog 70 #[bv n] w fun e w'=>e = .returned (.tuple #[pv (rdP n),.int .i64 (rdE n)])∧Below w.heap.size w w':=by
 have hl:=mJ n h
 have fin : ∀ {X:Cx} (hX:X.Ok Tryz.prog) (hin:mV M0 X.gl=true) {ps:List Prop} {v:Value} (run:sfunG Tryz.prog X M0 80 Tryz.f70 (ag Tryz.f70) [bv n]=some (ps,v)) (hp : ∀ p ∈ ps,p) (hv:v = .tuple #[pv (rdP n),.int .i64 (rdE n)]),Calls Tryz.prog 70 #[bv n] w fun e w'=>e = .returned (.tuple #[pv (rdP n),.int .i64 (rdE n)])∧Below w.heap.size w w':=by
  intro X hX hin ps v run hp hv
  subst hv
  exact aD hX mixed aO hin Tryz.func70 (by kernel_rfl) run hp (by simp [aE]) (.inl (qL _ _)) w hw
 have bad:a7 n=false→(Value.tuple #[pv noP,.int .i64 2]) = .tuple #[pv (rdP n),.int .i64 (rdE n)]:=fun hk=>by
  unfold rdP rdE;rw [hk,if_neg Bool.false_ne_true,if_neg Bool.false_ne_true]
 have hrt:eD n<RN:=rK _
 have IL:IsB (dK n):=by rw [hl];exact aI _
 have bl':aj (dK n)=n % TT:=by rw [hl,ao (ej n)]
 by_cases hc:n % TT<pp
 ·have c1:ncB n=false:=by rw [C6 h];simp [hc]
  by_cases he:sqe (sxN (n % TT))=0
  ·have e1:rR n=false:=by rw [xU h];simp [he]
   by_cases ho:im n=true
   ·have o1:kE n=true:=by rw [yy h];exact ho
    by_cases hz:eD n=0
    ·have z1:zT n=true:=by rw [yB h];simp [hz]
     exact fin (Cx.tell_ok lZ _) (by kernel_rfl) (Nx n) (al o1 (al IL (al c1 (al IL (al (aI _) (al e1 (al z1 al0))))))) (bad (by unfold a7;simp [ho,hz]))
    ·have z1:zT n=false:=by rw [yB h];simp [hz]
     have hk:a7 n=true:=by unfold a7;simp [hc,he,ho,hz]
     refine fin (Cx.tell_ok lZ _) (by kernel_rfl) (Nc n) (al o1 (al IL (al c1 (al IL (al (aI _) (al e1 (al z1 (al ib (al ⟨aI _,IL⟩ al0))))))))) ?_
     ·unfold rdP rdE rdX
      rw [hk,ho,bl',AG h,fv 0 (eD n) (by decide) hrt,ao (oa _ _),if_pos rfl,if_pos rfl,if_pos rfl]
   ·have ho:im n=false:=by simpa using ho
    have o1:kE n=false:=by rw [yy h];exact ho
    have hk:a7 n=true:=by unfold a7;simp [hc,he,ho]
    refine fin (Cx.tell_ok lZ _) (by kernel_rfl) (Ni n) (al o1 (al IL (al c1 (al IL (al (aI _) (al e1 (al ⟨aI _,IL⟩ al0))))))) ?_
    ·unfold rdP rdE rdX
     rw [hk,ho,bl',AG h,ao hrt,if_pos rfl,if_pos rfl,if_neg Bool.false_ne_true]
  ·have e1:rR n=true:=by rw [xU h];simp [he]
   have hk:a7 n=false:=by unfold a7;simp [he]
   cases ho:kE n
   ·exact fin (Cx.tell_ok lZ _) (by kernel_rfl) (vx n) (al ho (al IL (al c1 (al IL (al (aI _) (al e1 al0)))))) (bad hk)
   ·exact fin (Cx.tell_ok lZ _) (by kernel_rfl) (yR n) (al ho (al IL (al c1 (al IL (al (aI _) (al e1 al0)))))) (bad hk)
 ·have c1:ncB n=true:=by rw [C6 h];simp [hc]
  have hk:a7 n=false:=by unfold a7;simp [hc]
  cases ho:kE n
  ·exact fin (Cx.tell_ok lZ _) (by kernel_rfl) (vu n) (al ho (al IL (al c1 al0))) (bad hk)
  ·exact fin (Cx.tell_ok lZ _) (by kernel_rfl) (zo n) (al ho (al IL (al c1 al0))) (bad hk)
def gRdp:List Value→Option (List Prop × Value)
 | [A]=>some ([IsB A],.tuple #[pv (rdP (aj A)),.int .i64 (rdE (aj A))])
 | _=>none
theorem El {X:Cx} (hX:X.Ok Tryz.prog) (hc:bm M0 X.gl=true):(X.var M0 70 gRdp).Ok Tryz.prog:=by
 refine bM hX aO hc Tryz.func70 (by kernel_rfl) (by kernel_rfl) ?_
 intro args ps v ha hg hp
 unfold gRdp at hg
 split at hg
 ·rename_i A
  simp only [qG,qH] at hg
  obtain ⟨rfl,rfl⟩:=hg
  have hA:=hp _ (YJ.2 rfl)
  refine ⟨.inl (qL _ _),fun w hw => ?_⟩
  have h:=AE (aj A) (aS hA) w hw
  rw [← (show A=bv (aj A) from hA)] at h
  exact h
 ·simp at hg
def F9:Cx:=F8.var M0 70 gRdp
theorem ie:F9.Ok Tryz.prog:=El lZ (by kernel_rfl)
end Go.Proofs.YtajehiidpecknaaGreatDoor
namespace Go.Proofs.YtajehiidpecknaaGreatDoor
open Go Go.RowKit
theorem dj {n:Nat} (h:a7 n=true):rdE n=0:=by unfold rdE;rw [h,if_pos rfl]
theorem dv {n:Nat} (h:a7 n=false):rdE n=2:=by unfold rdE;rw [h,if_neg Bool.false_ne_true]
theorem GO  : sfunG Tryz.prog F9 M0 80 Tryz.f54 (ag Tryz.f54) []=some ([],bv 1):=by kernel_rfl
theorem yw   (w:World) (hw:Glo M0 w):Calls Tryz.prog 54 #[] w fun e w'=>e = .returned (bv 1)∧Below w.heap.size w w':=by
 exact aD ie mixed aO (by kernel_rfl) Tryz.func54 (by kernel_rfl) GO (al0) rfl (.inl (aE _)) w hw
def gZer:List Value→Option (List Prop × Value)
 | []=>some ([],bv 1)
 | _=>none
theorem Ee {X:Cx} (hX:X.Ok Tryz.prog) (hc:bm M0 X.gl=true):(X.var M0 54 gZer).Ok Tryz.prog:=by
 refine bM hX aO hc Tryz.func54 (by kernel_rfl) (by kernel_rfl) ?_
 intro args ps v ha hg hp
 unfold gZer at hg
 split at hg
 ·simp only [qG,qH] at hg
  obtain ⟨rfl,rfl⟩:=hg
  exact ⟨.inl (aE _),fun w hw=>yw w hw⟩
 ·simp at hg
def gChk:List Value→Option (List Prop × Value)
 | [A]=>some ([IsB A],.int .i64 (rdE (aj A)))
 | _=>none
theorem AP (a:Nat):sfunG Tryz.prog (F9.tell [(12,true)]) M0 80 Tryz.f80 (ag Tryz.f80) [bv a]=some ([IsB (bv a),(!(rdE (aj (bv a)) == 0))=true],.tuple #[bv 0,.int .i64 (rdE (aj (bv a)))]):=by kernel_rfl
theorem Di (a:Nat):sfunG Tryz.prog (F9.tell [(12,false)]) M0 80 Tryz.f80 (ag Tryz.f80) [bv a]=some ([IsB (bv a),(!(rdE (aj (bv a)) == 0))=false,IsP (pv (rdP (aj (bv a)))),IsP (pv (vl (p4 (pv (rdP (aj (bv a)))))))],.tuple #[bv (wrN (p4 (pv (vl (p4 (pv (rdP (aj (bv a))))))))),.int .i64 0]):=by kernel_rfl
def oI (a:Nat):Nat:=if a7 a then wrN (vl (rdP a)) else 0
theorem Gi (a:Nat) (ha:a<RN) (w:World) (hw:Glo M0 w):Calls Tryz.prog 80 #[bv a] w fun e w'=>e = .returned (.tuple #[bv (oI a),.int .i64 (rdE a)])∧Below w.heap.size w w':=by
 cases hk:a7 a
 ·have r:=AP a
  rw [ao ha,dv hk] at r
  rw [dv hk]
  unfold oI
  rw [hk,if_neg Bool.false_ne_true]
  exact aD (Cx.tell_ok ie _) mixed aO (by kernel_rfl) Tryz.func80 (by kernel_rfl) r (al (aI _) (al rfl al0)) (by simp [aE]) (.inl (bu _ _)) w hw
 ·have r:=Di a
  rw [ao ha,cU (eG a),cU (xM (eG a)),dj hk] at r
  rw [dj hk]
  unfold oI
  rw [hk,if_pos rfl]
  exact aD (Cx.tell_ok ie _) mixed aO (by kernel_rfl) Tryz.func80 (by kernel_rfl) r (al (aI _) (al rfl (al (bY (eG a)) (al (bY (xM (eG a))) al0)))) (by simp [aE]) (.inl (bu _ _)) w hw
def Mg:List Value→Option (List Prop × Value)
 | [A]=>some ([IsB A],.tuple #[bv (oI (aj A)),.int .i64 (rdE (aj A))])
 | _=>none
theorem FD {X:Cx} (hX:X.Ok Tryz.prog) (hc:bm M0 X.gl=true):(X.var M0 80 Mg).Ok Tryz.prog:=by
 refine bM hX aO hc Tryz.func80 (by kernel_rfl) (by kernel_rfl) ?_
 intro args ps v ha hg hp
 unfold Mg at hg
 split at hg
 ·rename_i A
  simp only [qG,qH] at hg
  obtain ⟨rfl,rfl⟩:=hg
  have hA:=hp _ (YJ.2 rfl)
  refine ⟨.inl (bu _ _),fun w hw => ?_⟩
  have h:=Gi (aj A) (aS hA) w hw
  rw [← (show A=bv (aj A) from hA)] at h
  exact h
 ·simp at hg
theorem Cr (n:Nat) (a:Nat):sfunG Tryz.prog (F9.tell [(14,true)]) M0 80 Tryz.f55 (ag Tryz.f55) [bv n,bv a]=some ([IsB (bv a),(!(rdE (aj (bv a)) == 0))=true],.tuple #[bv 0,.int .i64 (rdE (aj (bv a)))]):=by kernel_rfl
theorem Bj (n:Nat) (a:Nat):sfunG Tryz.prog (F9.tell [(14,false)]) M0 80 Tryz.f55 (ag Tryz.f55) [bv n,bv a]=some ([IsB (bv a),(!(rdE (aj (bv a)) == 0))=false,IsB (bv n)∧IsP (pv (rdP (aj (bv a)))),IsP (pv (dG (aj (bv n)) (p4 (pv (rdP (aj (bv a)))))))],.tuple #[bv (wrN (p4 (pv (dG (aj (bv n)) (p4 (pv (rdP (aj (bv a))))))))),.int .i64 0]):=by kernel_rfl
def fk (n:Nat) (a:Nat):Nat:=if a7 a then wrN (dG n (rdP a)) else 0
theorem Fm (n:Nat) (a:Nat) (hn:n<RN) (ha:a<RN) (w:World) (hw:Glo M0 w):Calls Tryz.prog 55 #[bv n,bv a] w fun e w'=>e = .returned (.tuple #[bv (fk n a),.int .i64 (rdE a)])∧Below w.heap.size w w':=by
 cases hk:a7 a
 ·have r:=Cr n a
  rw [ao ha,dv hk] at r
  rw [dv hk]
  unfold fk
  rw [hk,if_neg Bool.false_ne_true]
  exact aD (Cx.tell_ok ie _) mixed aO (by kernel_rfl) Tryz.func55 (by kernel_rfl) r (al (aI _) (al rfl al0)) (by simp [aE]) (.inl (bu _ _)) w hw
 ·have r:=Bj n a
  rw [ao ha,ao hn,cU (eG a),cU (ja n (rdP a)),dj hk] at r
  rw [dj hk]
  unfold fk
  rw [hk,if_pos rfl]
  exact aD (Cx.tell_ok ie _) mixed aO (by kernel_rfl) Tryz.func55 (by kernel_rfl) r (al (aI _) (al rfl (al ⟨aI _,bY (eG a)⟩ (al (bY (ja _ _)) al0)))) (by simp [aE]) (.inl (bu _ _)) w hw
def gPml:List Value→Option (List Prop × Value)
 | [A,B]=>some ([IsB A∧IsB B],.tuple #[bv (fk (aj A) (aj B)),.int .i64 (rdE (aj B))])
 | _=>none
theorem Fg {X:Cx} (hX:X.Ok Tryz.prog) (hc:bm M0 X.gl=true):(X.var M0 55 gPml).Ok Tryz.prog:=by
 refine bM hX aO hc Tryz.func55 (by kernel_rfl) (by kernel_rfl) ?_
 intro args ps v ha hg hp
 unfold gPml at hg
 split at hg
 ·rename_i A B
  simp only [qG,qH] at hg
  obtain ⟨rfl,rfl⟩:=hg
  obtain ⟨hA,hB⟩:=hp _ (YJ.2 rfl)
  refine ⟨.inl (bu _ _),fun w hw => ?_⟩
  have h:=Fm (aj A) (aj B) (aS hA) (aS hB) w hw
  rw [← (show A=bv (aj A) from hA),← (show B=bv (aj B) from hB)] at h
  exact h
 ·simp at hg
theorem Cv (a:Nat):sfunG Tryz.prog (F9.tell [(12,true)]) M0 80 Tryz.f35 (ag Tryz.f35) [bv a]=some ([IsB (bv a),(!(rdE (aj (bv a)) == 0))=true],.tuple #[bv 0,.int .i64 (rdE (aj (bv a)))]):=by kernel_rfl
theorem Dp (a:Nat):sfunG Tryz.prog (F9.tell [(12,false)]) M0 80 Tryz.f35 (ag Tryz.f35) [bv a]=some ([IsB (bv a),(!(rdE (aj (bv a)) == 0))=false,IsP (pv (rdP (aj (bv a)))),IsP (pv (dY (p4 (pv (rdP (aj (bv a))))))),IsP (pv (dY (p4 (pv (dY (p4 (pv (rdP (aj (bv a)))))))))),IsP (pv (dY (p4 (pv (dY (p4 (pv (dY (p4 (pv (rdP (aj (bv a)))))))))))))],.tuple #[bv (wrN (p4 (pv (dY (p4 (pv (dY (p4 (pv (dY (p4 (pv (rdP (aj (bv a))))))))))))))),.int .i64 0]):=by kernel_rfl
def ig (a:Nat):Nat:=if a7 a then wrN (dY (dY (dY (rdP a)))) else 0
theorem yz (a:Nat) (ha:a<RN) (w:World) (hw:Glo M0 w):Calls Tryz.prog 35 #[bv a] w fun e w'=>e = .returned (.tuple #[bv (ig a),.int .i64 (rdE a)])∧Below w.heap.size w w':=by
 cases hk:a7 a
 ·have r:=Cv a
  rw [ao ha,dv hk] at r
  rw [dv hk]
  unfold ig
  rw [hk,if_neg Bool.false_ne_true]
  exact aD (Cx.tell_ok ie _) mixed aO (by kernel_rfl) Tryz.func35 (by kernel_rfl) r (al (aI _) (al rfl al0)) (by simp [aE]) (.inl (bu _ _)) w hw
 ·have r:=Dp a
  rw [ao ha,cU (eG a),cU (dF (rdP a)),cU (dF (dY (rdP a))),cU (dF (dY (dY (rdP a)))),dj hk] at r
  rw [dj hk]
  unfold ig
  rw [hk,if_pos rfl]
  exact aD (Cx.tell_ok ie _) mixed aO (by kernel_rfl) Tryz.func35 (by kernel_rfl) r (al (aI _) (al rfl (al (bY (eG a)) (al (bY (dF _)) (al (bY (dF _)) (al (bY (dF _)) al0)))))) (by simp [aE]) (.inl (bu _ _)) w hw
def z8:List Value→Option (List Prop × Value)
 | [A]=>some ([IsB A],.tuple #[bv (ig (aj A)),.int .i64 (rdE (aj A))])
 | _=>none
theorem Ej {X:Cx} (hX:X.Ok Tryz.prog) (hc:bm M0 X.gl=true):(X.var M0 35 z8).Ok Tryz.prog:=by
 refine bM hX aO hc Tryz.func35 (by kernel_rfl) (by kernel_rfl) ?_
 intro args ps v ha hg hp
 unfold z8 at hg
 split at hg
 ·rename_i A
  simp only [qG,qH] at hg
  obtain ⟨rfl,rfl⟩:=hg
  have hA:=hp _ (YJ.2 rfl)
  refine ⟨.inl (bu _ _),fun w hw => ?_⟩
  have h:=yz (aj A) (aS hA) w hw
  rw [← (show A=bv (aj A) from hA)] at h
  exact h
 ·simp at hg
theorem Aw (a:Nat) (b:Nat):sfunG Tryz.prog (F9.tell [(15,true)]) M0 80 Tryz.f81 (ag Tryz.f81) [bv a,bv b]=some ([IsB (bv a),(!(rdE (aj (bv a)) == 0))=true],.tuple #[bv 0,.int .i64 (rdE (aj (bv a)))]):=by kernel_rfl
theorem DB (a:Nat) (b:Nat):sfunG Tryz.prog (F9.tell [(15,false),(24,true)]) M0 80 Tryz.f81 (ag Tryz.f81) [bv a,bv b]=some ([IsB (bv a),(!(rdE (aj (bv a)) == 0))=false,IsB (bv b),(!(rdE (aj (bv b)) == 0))=true],.tuple #[bv 0,.int .i64 (rdE (aj (bv b)))]):=by kernel_rfl
theorem Dq (a:Nat) (b:Nat):sfunG Tryz.prog (F9.tell [(15,false),(24,false)]) M0 80 Tryz.f81 (ag Tryz.f81) [bv a,bv b]=some ([IsB (bv a),(!(rdE (aj (bv a)) == 0))=false,IsB (bv b),(!(rdE (aj (bv b)) == 0))=false,IsP (pv (rdP (aj (bv a))))∧IsP (pv (rdP (aj (bv b)))),IsP (pv (jG (p4 (pv (rdP (aj (bv a))))) (p4 (pv (rdP (aj (bv b)))))))],.tuple #[bv (wrN (p4 (pv (jG (p4 (pv (rdP (aj (bv a))))) (p4 (pv (rdP (aj (bv b))))))))),.int .i64 0]):=by kernel_rfl
def addN (a b:Nat):Nat:=if a7 a && a7 b then wrN (jG (rdP a) (rdP b)) else 0
def uT (a b:Nat):Int:=if a7 a && a7 b then 0 else 2
theorem Gc (a:Nat) (b:Nat) (ha:a<RN) (hb:b<RN) (w:World) (hw:Glo M0 w):Calls Tryz.prog 81 #[bv a,bv b] w fun e w'=>e = .returned (.tuple #[bv (addN a b),.int .i64 (uT a b)])∧Below w.heap.size w w':=by
 cases hka:a7 a
 ·have r:=Aw a b
  rw [ao ha,dv hka] at r
  unfold addN uT
  rw [hka,Bool.false_and,if_neg Bool.false_ne_true,if_neg Bool.false_ne_true]
  exact aD (Cx.tell_ok ie _) mixed aO (by kernel_rfl) Tryz.func81 (by kernel_rfl) r (al (aI _) (al rfl al0)) (by simp [aE]) (.inl (bu _ _)) w hw
 ·cases hkb:a7 b
  ·have r:=DB a b
   rw [ao ha,ao hb,dj hka,dv hkb] at r
   unfold addN uT
   rw [hka,hkb,Bool.true_and,if_neg Bool.false_ne_true,if_neg Bool.false_ne_true]
   exact aD (Cx.tell_ok ie _) mixed aO (by kernel_rfl) Tryz.func81 (by kernel_rfl) r (al (aI _) (al rfl (al (aI _) (al rfl al0)))) (by simp [aE]) (.inl (bu _ _)) w hw
  ·have r:=Dq a b
   rw [ao ha,ao hb,dj hka,dj hkb,cU (eG a),cU (eG b),cU (mQ (rdP a) (rdP b))] at r
   unfold addN uT
   rw [hka,hkb,Bool.true_and,if_pos rfl,if_pos rfl]
   exact aD (Cx.tell_ok ie _) mixed aO (by kernel_rfl) Tryz.func81 (by kernel_rfl) r (al (aI _) (al rfl (al (aI _) (al rfl (al ⟨bY (eG a),bY (eG b)⟩ (al (bY (mQ _ _)) al0)))))) (by simp [aE]) (.inl (bu _ _)) w hw
def LS:List Value→Option (List Prop × Value)
 | [A,B]=>some ([IsB A∧IsB B],.tuple #[bv (addN (aj A) (aj B)),.int .i64 (uT (aj A) (aj B))])
 | _=>none
theorem Ef {X:Cx} (hX:X.Ok Tryz.prog) (hc:bm M0 X.gl=true):(X.var M0 81 LS).Ok Tryz.prog:=by
 refine bM hX aO hc Tryz.func81 (by kernel_rfl) (by kernel_rfl) ?_
 intro args ps v ha hg hp
 unfold LS at hg
 split at hg
 ·rename_i A B
  simp only [qG,qH] at hg
  obtain ⟨rfl,rfl⟩:=hg
  obtain ⟨hA,hB⟩:=hp _ (YJ.2 rfl)
  refine ⟨.inl (bu _ _),fun w hw => ?_⟩
  have h:=Gc (aj A) (aj B) (aS hA) (aS hB) w hw
  rw [← (show A=bv (aj A) from hA),← (show B=bv (aj B) from hB)] at h
  exact h
 ·simp at hg
def FA:Cx:=(F9.var M0 54 gZer).var M0 35 z8
theorem H9:FA.Ok Tryz.prog:=Ej (Ee ie (by kernel_rfl)) (by kernel_rfl)
theorem Cq (a:Nat):sfunG Tryz.prog (FA.tell [(12,false)]) M0 80 Tryz.f42 (ag Tryz.f42) [bv a]=some ([IsB (bv a),(rdE (aj (bv a)) == 0)=false],.tuple #[.bool false,.int .i64 (rdE (aj (bv a)))]):=by kernel_rfl
theorem Br (a:Nat):sfunG Tryz.prog (FA.tell [(12,true)]) M0 80 Tryz.f42 (ag Tryz.f42) [bv a]=some ([IsB (bv a),(rdE (aj (bv a)) == 0)=true],.tuple #[.bool (eqB (bl (ig (aj (bv a)))).toArray (bl 1).toArray 32),.int .i64 (rdE (aj (bv a)))]):=by kernel_rfl
def wa (a:Nat):Bool:=a7 a && decide (ig a=1)
theorem rQ (a:Nat):ig a<RN:=by
 unfold ig
 split
 ·exact rJ _
 ·decide
theorem mC (a:Nat):oI a<RN:=by
 unfold oI
 split
 ·exact rJ _
 ·decide
theorem rv (n a:Nat):fk n a<RN:=by
 unfold fk
 split
 ·exact rJ _
 ·decide
theorem iS (b:Bool) (e:Int):flat (.tuple #[.bool b,.int .i64 e])=true:=rfl
theorem EN (a:Nat) (ha:a<RN) (w:World) (hw:Glo M0 w):Calls Tryz.prog 42 #[bv a] w fun e w'=>e = .returned (.tuple #[.bool (wa a),.int .i64 (rdE a)])∧Below w.heap.size w w':=by
 cases hk:a7 a
 ·have r:=Cq a
  rw [ao ha,dv hk] at r
  rw [dv hk]
  unfold wa
  rw [hk,Bool.false_and]
  exact aD (Cx.tell_ok H9 _) mixed aO (by kernel_rfl) Tryz.func42 (by kernel_rfl) r (al (aI _) (al rfl al0)) (by simp [aE]) (.inl (iS _ _)) w hw
 ·have r:=Br a
  rw [ao ha,dj hk,vP _ 1 (rQ a) (by decide)] at r
  rw [dj hk]
  unfold wa
  rw [hk,Bool.true_and]
  exact aD (Cx.tell_ok H9 _) mixed aO (by kernel_rfl) Tryz.func42 (by kernel_rfl) r (al (aI _) (al rfl al0)) (by simp [aE]) (.inl (iS _ _)) w hw
def F9g:Cx:=(F9.glo gl5).var M1 53 gGen
theorem Iv:F9g.Ok Tryz.prog:=GW (Cx.glo_ok ie fun g h=>Kv h) (by kernel_rfl)
theorem yx:uR.ok:=Cb (by decide) (by decide)
def zO (n:Nat):Nat:=wrN (dG n uR)
theorem E5 (n:Nat):sfunG Tryz.prog F9g M1 80 Tryz.f18 (ag Tryz.f18) [bv n]=some ([IsB (bv n)∧IsP (pv uR),IsP (pv (dG (aj (bv n)) (p4 (pv uR))))],bv (wrN (p4 (pv (dG (aj (bv n)) (p4 (pv uR))))))):=by kernel_rfl
theorem yI (n:Nat) (hn:n<RN) (w:World) (hw:Glo M1 w):Calls Tryz.prog 18 #[bv n] w fun e w'=>e = .returned (bv (zO n))∧Below w.heap.size w w':=by
 have r:=E5 n
 rw [ao hn,cU yx,cU (ja _ _)] at r
 exact aD Iv mixed me (by kernel_rfl) Tryz.func18 (by kernel_rfl) r (al ⟨aI _,bY yx⟩ (al (bY (ja _ _)) al0)) (by simp [aE]) (.inl (aE _)) w hw
def KY:List Value→Option (List Prop × Value)
 | [A]=>some ([IsB A],bv (zO (aj A)))
 | _=>none
theorem EX {X:Cx} (hX:X.Ok Tryz.prog) (hc:bm M1 X.gl=true):(X.var M1 18 KY).Ok Tryz.prog:=by
 refine bM hX me hc Tryz.func18 (by kernel_rfl) (by kernel_rfl) ?_
 intro args ps v ha hg hp
 unfold KY at hg
 split at hg
 ·rename_i A
  simp only [qG,qH] at hg
  obtain ⟨rfl,rfl⟩:=hg
  have hA:=hp _ (YJ.2 rfl)
  refine ⟨.inl (aE _),fun w hw => ?_⟩
  have h:=yI (aj A) (aS hA) w hw
  rw [← (show A=bv (aj A) from hA)] at h
  exact h
 ·simp at hg
theorem GS (n:Nat):zO n<RN:=rJ _
end Go.Proofs.YtajehiidpecknaaGreatDoor
