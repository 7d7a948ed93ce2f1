/- Package point: squareOfX, read, write as contracts. -/
import Derived.Test.YtajehiidpecknaaGreatDoorFieT
import Derived.Test.YtajehiidpecknaaGreatDoorPoiE
set_option linter.all false
namespace Go.Proofs.YtajehiidpecknaaGreatDoor
open Go Go.RowKit
def gSqF:List Value→Option (List Prop × Value)
 | [A]=>some ([IsB A],.tuple #[bv (sqv (aj A)),.int .i64 (sqe (aj A))])
 | _=>none
theorem bM (n:Nat) (e:Int):flat (.tuple #[bv n,.int .i64 e])=true:=by
 show ([bv n,.int .i64 e].all flat2)=true
 have:flat2 (bv n)=true:=aE n
 rw [List.all_cons,this];rfl
theorem o9 (p:P4) (e:Int):flat (.tuple #[pv p,.int .i64 e])=true:=by
 show ([pv p,.int .i64 e].all flat2)=true
 have:flat2 (pv p)=true:=aX p
 rw [List.all_cons,this];rfl
theorem D6 {X:Cx} (hX:X.Ok Tryz.prog):(X.pure 111 gSqF).Ok Tryz.prog:=by
 refine aD hX Tryz.func111 (by kernel_rfl) (by kernel_rfl) ?_
 intro args ps v ha hg hp
 unfold gSqF at hg
 split at hg
 ·rename_i A
  simp only [qG,qH] at hg
  obtain ⟨rfl,rfl⟩:=hg
  have hA:=hp _ (List.mem_singleton.2 rfl)
  refine ⟨.inl (bM _ _),fun w => ?_⟩
  have h:=yU (aj A) (aS hA) w
  rw [← (show A=bv (aj A) from hA)] at h
  exact h
 ·simp at hg
def F6:Cx:=F5.pure 111 gSqF
theorem kv:F6.Ok Tryz.prog:=D6 ma
def sxN (y:Nat):Nat:=fml (fsb (fml y y) 1) (fiv (fad 1 (fml DN' (fml y y))))
def sqV (y:Nat):Value:=ML (bv y) (bv y)
def dvV (y:Nat):Value:=AD (bv 1) (ML (bv DN') (sqV y))
theorem Hd (y:Nat):sfunG Tryz.prog F6 M0 60 Tryz.f112 (ai Tryz.f112) [bv y]=some ([IB (bv y) (bv y),IB (bv DN') (sqV y),IB (bv 1) (ML (bv DN') (sqV y)),IB (sqV y) (bv 1),IsB (dvV y),IB (SB (sqV y) (bv 1)) (IV (dvV y))],ML (SB (sqV y) (bv 1)) (IV (dvV y))):=by kernel_rfl
theorem Gu {y:Nat} (h:y<RN):ML (SB (sqV y) (bv 1)) (IV (dvV y))=bv (sxN y):=by
 have h1:sqV y=bv (fml y y):=cX _ _ h h
 have h2:dvV y=bv (fad 1 (fml DN' (fml y y))):=by unfold dvV;rw [h1,cX _ _ (by decide) (fj _ _),dz _ _ (by decide) (fj _ _)]
 rw [h1,h2,eV _ _ (fj _ _) (by decide),xn _ (kN _ _),cX _ _ (mN _ _) (Gw _)]
 rfl
def GK:List Value→Option (List Prop × Value)
 | [A]=>some ([IsB A],bv (sxN (aj A)))
 | _=>none
theorem D7 {X:Cx} (hX:X.Ok Tryz.prog) (hc:aZ M0 X.gl=true):(X.var M0 112 GK).Ok Tryz.prog:=by
 refine bE hX aL hc Tryz.func112 (by kernel_rfl) (by kernel_rfl) ?_
 intro args ps v ha hg hp
 unfold GK at hg
 split at hg
 ·rename_i A
  simp only [qG,qH] at hg
  obtain ⟨rfl,rfl⟩:=hg
  have hA:=hp _ (List.mem_singleton.2 rfl)
  refine ⟨.inl (aE _),fun w hw => ?_⟩
  have run:=Hd (aj A)
  rw [Gu (aS hA)] at run
  have h:=az kv mixed aL (by kernel_rfl) Tryz.func112 (by kernel_rfl) run (by
   intro p hp
   simp only [List.mem_cons,List.not_mem_nil,or_false] at hp
   rcases hp with rfl | rfl | rfl | rfl | rfl | rfl <;> first | exact ib | exact aG _) (by simp [aE]) (.inl (aE _)) w hw
  rw [← (show A=bv (aj A) from hA)] at h
  exact h
 ·simp at hg
def F7:Cx:=F6.var M0 112 GK
theorem Ce:F7.Ok Tryz.prog:=D7 kv (by kernel_rfl)
def TT:Nat:=57896044618658097711785492504343953926634992332820282019728792003956564819968
theorem jc:TT=256 ^ 31*128:=by decide
def dt (n:Nat):Value := .agg ((bl n).take 31 ++ [Value.int .u8 (bits .andNot .u8 (by8 n 31) 128)]).toArray
def Hz (n:Nat):Value := .agg ((bl n).take 31 ++ [Value.int .u8 (bits .or .u8 (by8 n 31) 128)]).toArray
theorem il : ∀ y:Fin 256,bits .andNot .u8 ((y.val:Nat):Int) 128=((y.val % 128:Nat):Int)∧(!(bits .and .u8 ((y.val:Nat):Int) 128 == 0))=decide (128≤y.val)∧bits .or .u8 ((y.val:Nat):Int) 128=((y.val % 128+128:Nat):Int)∧(bits .and .u8 ((y.val:Nat):Int) 1 == 1)=decide (y.val % 2=1):=by decide +kernel
theorem mc (n:Nat):bl n=(bl n).take 31 ++ [.int .u8 (by8 n 31)]:=by
 unfold bl
 rw [show (32:Nat)=31+1 from rfl,List.range_succ,List.map_append,List.take_left' (by simp)]
 rfl
theorem jM {m n:Nat} (h:m % 256 ^ 31=n % 256 ^ 31):(bl m).take 31=(bl n).take 31:=by
 unfold bl
 rw [←List.map_take,←List.map_take,List.take_range]
 refine List.map_congr_left fun i hi => ?_
 have hi:i<31:=by simpa using hi
 rw [←jI m 31 i hi,←jI n 31 i hi,h]
theorem kX (n:Nat) (h:n<RN):dt n=bv (n % TT):=by
 unfold dt bv br
 rw [mc (n % TT)]
 have hb:n/256 ^ 31 % 256<256:=Nat.mod_lt _ (by decide)
 have e1:by8 n 31=((n/256 ^ 31 % 256:Nat):Int):=rfl
 have o:=(il ⟨n/256 ^ 31 % 256,hb⟩).1
 simp only at o
 have e2:by8 (n % TT) 31=((n/256 ^ 31 % 256 % 128:Nat):Int):=by
  unfold by8
  rw [jc,Nat.mod_mul_right_div_self]
  congr 1
  omega
 rw [e1,o,e2,jM (m:=n % TT) (n:=n) (by rw [jc,Nat.mod_mul_right_mod])]
theorem qR (n:Nat) (h:n<TT):Hz n=bv (n+TT):=by
 unfold Hz bv br
 rw [mc (n+TT)]
 have hb:n/256 ^ 31 % 256<256:=Nat.mod_lt _ (by decide)
 have e1:by8 n 31=((n/256 ^ 31 % 256:Nat):Int):=rfl
 have o:=(il ⟨n/256 ^ 31 % 256,hb⟩).2.2.1
 simp only at o
 have hl:n/256 ^ 31<128:=by rw [Nat.div_lt_iff_lt_mul (by decide),Nat.mul_comm,←jc];exact h
 have e2:by8 (n+TT) 31=((n/256 ^ 31 % 256 % 128+128:Nat):Int):=by
  unfold by8
  rw [jc,Nat.add_mul_div_left _ _ (by decide)]
  congr 1
  omega
 rw [e1,o,e2,jM (m:=n+TT) (n:=n) (by rw [jc,Nat.add_mul_mod_self_left])]
def ivV (p:P4):Value:=IV (bv p.z)
def wx (p:P4):Nat:=fml p.x (fiv p.z)
def wy (p:P4):Nat:=fml p.y (fiv p.z)
def wxS (p:P4):Nat:=fml (aj (bv p.x)) (aj (ivV p))
def wyS (p:P4):Nat:=fml (aj (bv p.y)) (aj (ivV p))
theorem EP (p:P4):sfunG Tryz.prog (F7.tell [(20,false)]) M0 60 Tryz.f51 (ai Tryz.f51) [pv p]=some ([IsB (bv p.z),IB (bv p.x) (ivV p),IB (bv p.y) (ivV p),(bits .and .u8 (by8 (wxS p) 0) 1 == 1)=false],bv (wyS p)):=by kernel_rfl
theorem EH (p:P4):sfunG Tryz.prog (F7.tell [(20,true)]) M0 60 Tryz.f51 (ai Tryz.f51) [pv p]=some ([IsB (bv p.z),IB (bv p.x) (ivV p),IB (bv p.y) (ivV p),(bits .and .u8 (by8 (wxS p) 0) 1 == 1)=true],Hz (wyS p)):=by kernel_rfl
def wrN (p:P4):Nat:=wy p+wx p % 2*TT
theorem fW:pp<TT:=by decide
theorem zN (p:P4):wrN p<RN:=by
 have h1:wy p<TT:=Nat.lt_trans (eF _ _) fW
 have h2:wx p % 2<2:=Nat.mod_lt _ (by decide)
 have h3:RN=TT+TT:=by decide
 unfold wrN
 rcases (by omega:wx p % 2=0∨wx p % 2=1) with h | h <;> rw [h] <;> omega
theorem yr {p:P4} (lp:p.ok) (w:World) (hw:Glo M0 w):Calls Tryz.prog 51 #[pv p] w fun e w'=>e = .returned (bv (wrN p))∧Below w.heap.size w w':=by
 have e1:ivV p=bv (fiv p.z):=xn _ lp.z
 have e2:wxS p=wx p:=by unfold wxS wx;rw [e1,ar lp.x,ar (Gw _)]
 have e3:wyS p=wy p:=by unfold wyS wy;rw [e1,ar lp.y,ar (Gw _)]
 have hb:wx p/256 ^ 0 % 256<256:=Nat.mod_lt _ (by decide)
 have o:=(il ⟨wx p/256 ^ 0 % 256,hb⟩).2.2.2
 simp only at o
 have o:(bits .and .u8 (by8 (wx p) 0) 1 == 1)=decide (wx p % 2=1):=by
  show (bits .and .u8 ((wx p/256 ^ 0 % 256:Nat):Int) 1 == 1)=_
  rw [o,decide_eq_decide,Nat.pow_zero,Nat.div_one,Nat.mod_mod_of_dvd _ (by decide)]
 have hwy:wy p<TT:=Nat.lt_trans (eF _ _) fW
 have r0:=EP p
 have r1:=EH p
 rw [e2,e3,e1] at r0 r1
 rw [o] at r0 r1
 by_cases h:wx p % 2=1
 ·have k:=az (Cx.tell_ok Ce _) mixed aL (by kernel_rfl) Tryz.func51 (by kernel_rfl) r1 (by
   intro p hp
   simp only [List.mem_cons,List.not_mem_nil,or_false] at hp
   rcases hp with rfl | rfl | rfl | rfl
   ·exact aG _
   ·exact ib
   ·exact ib
   ·exact decide_eq_true h) (by simp [aX]) (.inl (by rw [qR _ hwy];exact aE _)) w hw
  rw [qR _ hwy] at k
  unfold wrN
  rw [h,Nat.one_mul]
  exact k
 ·have k:=az (Cx.tell_ok Ce _) mixed aL (by kernel_rfl) Tryz.func51 (by kernel_rfl) r0 (by
   intro p hp
   simp only [List.mem_cons,List.not_mem_nil,or_false] at hp
   rcases hp with rfl | rfl | rfl | rfl
   ·exact aG _
   ·exact ib
   ·exact ib
   ·exact decide_eq_false h) (by simp [aX]) (.inl (aE _)) w hw
  have h0:wx p % 2=0:=by omega
  unfold wrN
  rw [h0,Nat.zero_mul,Nat.add_zero]
  exact k
def gWr:List Value→Option (List Prop × Value)
 | [A]=>some ([IsP A],bv (wrN (p4 A)))
 | _=>none
theorem Hl {X:Cx} (hX:X.Ok Tryz.prog) (hc:aZ M0 X.gl=true):(X.var M0 51 gWr).Ok Tryz.prog:=by
 refine bE hX aL hc Tryz.func51 (by kernel_rfl) (by kernel_rfl) ?_
 intro args ps v ha hg hp
 unfold gWr at hg
 split at hg
 ·rename_i A
  simp only [qG,qH] at hg
  obtain ⟨rfl,rfl⟩:=hg
  obtain ⟨hA,lA⟩:=hp _ (List.mem_singleton.2 rfl)
  refine ⟨.inl (aE _),fun w hw => ?_⟩
  have h:=yr lA w hw
  rw [←hA] at h
  exact h
 ·simp at hg
end Go.Proofs.YtajehiidpecknaaGreatDoor
namespace Go.Proofs.YtajehiidpecknaaGreatDoor
open Go Go.RowKit
def F8:Cx:=F7.var M0 51 gWr
theorem kK:F8.Ok Tryz.prog:=Hl Ce (by kernel_rfl)
def jZ (n:Nat):Bool := !(bits .and .u8 (by8 n 31) 128 == 0)
def ncB (n:Nat):Bool := !decide (aj (dt n)<pp)
def sxV (n:Nat):Nat:=aj (bv (sxN (aj (dt n))))
def qu (n:Nat):Bool := !(sqe (sxV n) == 0)
def rtV (n:Nat):Value:=bv (sqv (sxV n))
def yd (n:Nat):Bool:=eqB (bl (sqv (sxV n))).toArray (bl 0).toArray 32
def noP:P4:=⟨0,0,0,0⟩
theorem al0 : ∀ p ∈ ([]:List Prop),p:=fun _ h=>(by cases h)
theorem al {q:Prop} {l:List Prop} (hq:q) (h : ∀ p ∈ l,p) : ∀ p ∈ q :: l,p:=fun p hp=>by
 rcases List.mem_cons.1 hp with rfl | hp
 ·exact hq
 ·exact h p hp
theorem yM (n:Nat):sfunG Tryz.prog (F8.tell [(11,true),(19,true)]) M0 80 Tryz.f70 (ai Tryz.f70) [bv n]=some ([jZ n=true,IsB (dt n),ncB n=true],.tuple #[pv noP,.int .i64 2]):=by kernel_rfl
theorem yJ (n:Nat):sfunG Tryz.prog (F8.tell [(11,true),(19,false),(28,true)]) M0 80 Tryz.f70 (ai Tryz.f70) [bv n]=some ([jZ n=true,IsB (dt n),ncB n=false,IsB (dt n),IsB (bv (sxN (aj (dt n)))),qu n=true],.tuple #[pv noP,.int .i64 2]):=by kernel_rfl
theorem vr (n:Nat):sfunG Tryz.prog (F8.tell [(11,false),(19,true)]) M0 80 Tryz.f70 (ai Tryz.f70) [bv n]=some ([jZ n=false,IsB (dt n),ncB n=true],.tuple #[pv noP,.int .i64 2]):=by kernel_rfl
theorem uh (n:Nat):sfunG Tryz.prog (F8.tell [(11,false),(19,false),(28,true)]) M0 80 Tryz.f70 (ai Tryz.f70) [bv n]=some ([jZ n=false,IsB (dt n),ncB n=false,IsB (dt n),IsB (bv (sxN (aj (dt n)))),qu n=true],.tuple #[pv noP,.int .i64 2]):=by kernel_rfl
theorem K5 (n:Nat):sfunG Tryz.prog (F8.tell [(11,true),(19,false),(28,false),(34,true)]) M0 80 Tryz.f70 (ai Tryz.f70) [bv n]=some ([jZ n=true,IsB (dt n),ncB n=false,IsB (dt n),IsB (bv (sxN (aj (dt n)))),qu n=false,yd n=true],.tuple #[pv noP,.int .i64 2]):=by kernel_rfl
theorem Ld (n:Nat):sfunG Tryz.prog (F8.tell [(11,true),(19,false),(28,false),(34,false)]) M0 80 Tryz.f70 (ai Tryz.f70) [bv n]=some ([jZ n=true,IsB (dt n),ncB n=false,IsB (dt n),IsB (bv (sxN (aj (dt n)))),qu n=false,yd n=false,IB (bv 0) (rtV n),IB (SB (bv 0) (rtV n)) (dt n)],.tuple #[pv (atN (aj (SB (bv 0) (rtV n))) (aj (dt n))),.int .i64 0]):=by kernel_rfl
theorem Lc (n:Nat):sfunG Tryz.prog (F8.tell [(11,false),(19,false),(28,false)]) M0 80 Tryz.f70 (ai Tryz.f70) [bv n]=some ([jZ n=false,IsB (dt n),ncB n=false,IsB (dt n),IsB (bv (sxN (aj (dt n)))),qu n=false,IB (rtV n) (dt n)],.tuple #[pv (atN (aj (rtV n)) (aj (dt n))),.int .i64 0]):=by kernel_rfl
def gS (n:Nat):Bool:=decide (TT≤n)
def dK (n:Nat):Nat:=sqv (sxN (n % TT))
def bD (n:Nat):Bool:=decide (n % TT<pp) && (decide (sqe (sxN (n % TT))=0) && !(gS n && decide (dK n=0)))
def rdX (n:Nat):Nat:=if gS n then fsb 0 (dK n) else dK n
def rdP (n:Nat):P4:=if bD n then atN (rdX n) (n % TT) else noP
def rdE (n:Nat):Int:=if bD n then 0 else 2
theorem qn (a:Nat):sqv a<RN:=by
 unfold sqv
 split
 ·unfold ev
  have:=vW a
  have h2:pp<RN:=by decide
  split <;> omega
 ·decide
theorem dE (n:Nat):n % TT<RN:=Nat.lt_trans (Nat.mod_lt _ (by decide)) (by decide)
theorem Ie (y:Nat):sxN y<RN:=fj _ _
theorem vE {n:Nat} (h:n<RN):jZ n=gS n:=by
 unfold jZ gS
 have hb:n/256 ^ 31 % 256<256:=Nat.mod_lt _ (by decide)
 have o:=(il ⟨n/256 ^ 31 % 256,hb⟩).2.1
 simp only at o
 show (!(bits .and .u8 ((n/256 ^ 31 % 256:Nat):Int) 128 == 0))=_
 rw [o,decide_eq_decide]
 have h2:n/256 ^ 31<256:=by rw [Nat.div_lt_iff_lt_mul (by decide)];exact Nat.lt_of_lt_of_le h (by decide)
 rw [Nat.mod_eq_of_lt h2,Nat.le_div_iff_mul_le (by decide),jc,Nat.mul_comm]
theorem zu {n:Nat} (h:n<RN):ncB n = !decide (n % TT<pp):=by
 unfold ncB;rw [kX n h,ar (dE n)]
theorem vm {n:Nat} (h:n<RN):sxV n=sxN (n % TT):=by
 unfold sxV;rw [kX n h,ar (dE n),ar (Ie _)]
theorem wX {n:Nat} (h:n<RN):qu n = !decide (sqe (sxN (n % TT))=0):=by
 unfold qu;rw [vm h]
 by_cases e:sqe (sxN (n % TT))=0 <;> simp [e]
theorem yS {n:Nat} (h:n<RN):rtV n=bv (dK n):=by unfold rtV dK;rw [vm h]
theorem AZ (m n:Nat) (hm:m<RN) (hn:n<RN):eqB (bl m).toArray (bl n).toArray 32=decide (m=n):=by
 have g : ∀ k i,i<32→gM (bl k).toArray i=by8 k i:=fun k i hi=>by
  unfold gM
  have:(bl k).toArray[i]? = some (.int .u8 (by8 k i)):=by simp [bl,hi]
  rw [this]
 unfold eqB
 by_cases h:m=n
 ·subst h
  rw [decide_eq_true rfl]
  exact List.all_eq_true.2 fun i _=>by simp
 ·rw [decide_eq_false h]
  apply Bool.eq_false_iff.2
  intro hall
  apply h
  have key:=u9 (m:=m) (n:=n) 32 (fun i hi=>by
   have:=List.all_eq_true.1 hall i (List.mem_range.2 hi)
   rw [g m i hi,g n i hi] at this
   simpa using this)
  have e:256 ^ 32=RN:=by decide
  rw [e,Nat.mod_eq_of_lt hm,Nat.mod_eq_of_lt hn] at key
  exact key
theorem wZ {n:Nat} (h:n<RN):yd n=decide (dK n=0):=by
 unfold yd;rw [vm h];exact AZ _ 0 (qn _) (by decide)
theorem dI (n:Nat):(rdP n).ok:=by
 unfold rdP
 split
 ·refine Cy ?_ (dE n)
  unfold rdX
  split
  ·exact mN _ _
  ·exact qn _
 ·exact ⟨by decide,by decide,by decide,by decide⟩
theorem B9 (n:Nat) (h:n<RN) (w:World) (hw:Glo M0 w):Calls Tryz.prog 70 #[bv n] w fun e w'=>e = .returned (.tuple #[pv (rdP n),.int .i64 (rdE n)])∧Below w.heap.size w w':=by
 have hl:=kX n h
 have fin : ∀ {X:Cx} (hX:X.Ok Tryz.prog) (hin:ln M0 X.gl=true) {ps:List Prop} {v:Value} (run:sfunG Tryz.prog X M0 80 Tryz.f70 (ai Tryz.f70) [bv n]=some (ps,v)) (hp : ∀ p ∈ ps,p) (hv:v = .tuple #[pv (rdP n),.int .i64 (rdE n)]),Calls Tryz.prog 70 #[bv n] w fun e w'=>e = .returned (.tuple #[pv (rdP n),.int .i64 (rdE n)])∧Below w.heap.size w w':=by
  intro X hX hin ps v run hp hv
  subst hv
  exact az hX mixed aL hin Tryz.func70 (by kernel_rfl) run hp (by simp [aE]) (.inl (o9 _ _)) w hw
 have bad:bD n=false→(Value.tuple #[pv noP,.int .i64 2]) = .tuple #[pv (rdP n),.int .i64 (rdE n)]:=fun hk=>by
  unfold rdP rdE;rw [hk,if_neg Bool.false_ne_true,if_neg Bool.false_ne_true]
 have hrt:dK n<RN:=qn _
 have IL:IsB (dt n):=by rw [hl];exact aG _
 have bl':aj (dt n)=n % TT:=by rw [hl,ar (dE n)]
 by_cases hc:n % TT<pp
 ·have c1:ncB n=false:=by rw [zu h];simp [hc]
  by_cases he:sqe (sxN (n % TT))=0
  ·have e1:qu n=false:=by rw [wX h];simp [he]
   by_cases ho:gS n=true
   ·have o1:jZ n=true:=by rw [vE h];exact ho
    by_cases hz:dK n=0
    ·have z1:yd n=true:=by rw [wZ h];simp [hz]
     exact fin (Cx.tell_ok kK _) (by kernel_rfl) (K5 n) (al o1 (al IL (al c1 (al IL (al (aG _) (al e1 (al z1 al0))))))) (bad (by unfold bD;simp [ho,hz]))
    ·have z1:yd n=false:=by rw [wZ h];simp [hz]
     have hk:bD n=true:=by unfold bD;simp [hc,he,ho,hz]
     refine fin (Cx.tell_ok kK _) (by kernel_rfl) (Ld n) (al o1 (al IL (al c1 (al IL (al (aG _) (al e1 (al z1 (al ib (al ⟨aG _,IL⟩ al0))))))))) ?_
     ·unfold rdP rdE rdX
      rw [hk,ho,bl',yS h,eV 0 (dK n) (by decide) hrt,ar (mN _ _),if_pos rfl,if_pos rfl,if_pos rfl]
   ·have ho:gS n=false:=by simpa using ho
    have o1:jZ n=false:=by rw [vE h];exact ho
    have hk:bD n=true:=by unfold bD;simp [hc,he,ho]
    refine fin (Cx.tell_ok kK _) (by kernel_rfl) (Lc n) (al o1 (al IL (al c1 (al IL (al (aG _) (al e1 (al ⟨aG _,IL⟩ al0))))))) ?_
    ·unfold rdP rdE rdX
     rw [hk,ho,bl',yS h,ar hrt,if_pos rfl,if_pos rfl,if_neg Bool.false_ne_true]
  ·have e1:qu n=true:=by rw [wX h];simp [he]
   have hk:bD n=false:=by unfold bD;simp [he]
   cases ho:jZ n
   ·exact fin (Cx.tell_ok kK _) (by kernel_rfl) (uh n) (al ho (al IL (al c1 (al IL (al (aG _) (al e1 al0)))))) (bad hk)
   ·exact fin (Cx.tell_ok kK _) (by kernel_rfl) (yJ n) (al ho (al IL (al c1 (al IL (al (aG _) (al e1 al0)))))) (bad hk)
 ·have c1:ncB n=true:=by rw [zu h];simp [hc]
  have hk:bD n=false:=by unfold bD;simp [hc]
  cases ho:jZ n
  ·exact fin (Cx.tell_ok kK _) (by kernel_rfl) (vr n) (al ho (al IL (al c1 al0))) (bad hk)
  ·exact fin (Cx.tell_ok kK _) (by kernel_rfl) (yM n) (al ho (al IL (al c1 al0))) (bad hk)
def gRdp:List Value→Option (List Prop × Value)
 | [A]=>some ([IsB A],.tuple #[pv (rdP (aj A)),.int .i64 (rdE (aj A))])
 | _=>none
theorem Er {X:Cx} (hX:X.Ok Tryz.prog) (hc:aZ M0 X.gl=true):(X.var M0 70 gRdp).Ok Tryz.prog:=by
 refine bE hX aL hc Tryz.func70 (by kernel_rfl) (by kernel_rfl) ?_
 intro args ps v ha hg hp
 unfold gRdp at hg
 split at hg
 ·rename_i A
  simp only [qG,qH] at hg
  obtain ⟨rfl,rfl⟩:=hg
  have hA:=hp _ (List.mem_singleton.2 rfl)
  refine ⟨.inl (o9 _ _),fun w hw => ?_⟩
  have h:=B9 (aj A) (aS hA) w hw
  rw [← (show A=bv (aj A) from hA)] at h
  exact h
 ·simp at hg
def F9:Cx:=F8.var M0 70 gRdp
theorem gH:F9.Ok Tryz.prog:=Er kK (by kernel_rfl)
end Go.Proofs.YtajehiidpecknaaGreatDoor
namespace Go.Proofs.YtajehiidpecknaaGreatDoor
open Go Go.RowKit
theorem dN {n:Nat} (h:bD n=true):rdE n=0:=by unfold rdE;rw [h,if_pos rfl]
theorem fi {n:Nat} (h:bD n=false):rdE n=2:=by unfold rdE;rw [h,if_neg Bool.false_ne_true]
theorem DL  : sfunG Tryz.prog F9 M0 80 Tryz.f54 (ai Tryz.f54) []=some ([],bv 1):=by kernel_rfl
theorem vR   (w:World) (hw:Glo M0 w):Calls Tryz.prog 54 #[] w fun e w'=>e = .returned (bv 1)∧Below w.heap.size w w':=by
 exact az gH mixed aL (by kernel_rfl) Tryz.func54 (by kernel_rfl) DL (al0) rfl (.inl (aE _)) w hw
def gZer:List Value→Option (List Prop × Value)
 | []=>some ([],bv 1)
 | _=>none
theorem EK {X:Cx} (hX:X.Ok Tryz.prog) (hc:aZ M0 X.gl=true):(X.var M0 54 gZer).Ok Tryz.prog:=by
 refine bE hX aL hc Tryz.func54 (by kernel_rfl) (by kernel_rfl) ?_
 intro args ps v ha hg hp
 unfold gZer at hg
 split at hg
 ·simp only [qG,qH] at hg
  obtain ⟨rfl,rfl⟩:=hg
  exact ⟨.inl (aE _),fun w hw=>vR w hw⟩
 ·simp at hg
def Ip:List Value→Option (List Prop × Value)
 | []=>some ([],bv GY)
 | _=>none
def gChk:List Value→Option (List Prop × Value)
 | [A]=>some ([IsB A],.int .i64 (rdE (aj A)))
 | _=>none
theorem zx (a:Nat):sfunG Tryz.prog (F9.tell [(12,true)]) M0 80 Tryz.f80 (ai Tryz.f80) [bv a]=some ([IsB (bv a),(!(rdE (aj (bv a)) == 0))=true],.tuple #[bv 0,.int .i64 (rdE (aj (bv a)))]):=by kernel_rfl
theorem Bi (a:Nat):sfunG Tryz.prog (F9.tell [(12,false)]) M0 80 Tryz.f80 (ai Tryz.f80) [bv a]=some ([IsB (bv a),(!(rdE (aj (bv a)) == 0))=false,IsP (pv (rdP (aj (bv a)))),IsP (pv (BI (p4 (pv (rdP (aj (bv a)))))))],.tuple #[bv (wrN (p4 (pv (BI (p4 (pv (rdP (aj (bv a))))))))),.int .i64 0]):=by kernel_rfl
def pM (a:Nat):Nat:=if bD a then wrN (BI (rdP a)) else 0
theorem ER (a:Nat) (ha:a<RN) (w:World) (hw:Glo M0 w):Calls Tryz.prog 80 #[bv a] w fun e w'=>e = .returned (.tuple #[bv (pM a),.int .i64 (rdE a)])∧Below w.heap.size w w':=by
 cases hk:bD a
 ·have r:=zx a
  rw [ar ha,fi hk] at r
  rw [fi hk]
  unfold pM
  rw [hk,if_neg Bool.false_ne_true]
  exact az (Cx.tell_ok gH _) mixed aL (by kernel_rfl) Tryz.func80 (by kernel_rfl) r (al (aG _) (al rfl al0)) (by simp [aE]) (.inl (bM _ _)) w hw
 ·have r:=Bi a
  rw [ar ha,cN (dI a),cN (vN (dI a)),dN hk] at r
  rw [dN hk]
  unfold pM
  rw [hk,if_pos rfl]
  exact az (Cx.tell_ok gH _) mixed aL (by kernel_rfl) Tryz.func80 (by kernel_rfl) r (al (aG _) (al rfl (al (bR (dI a)) (al (bR (vN (dI a))) al0)))) (by simp [aE]) (.inl (bM _ _)) w hw
def I9:List Value→Option (List Prop × Value)
 | [A]=>some ([IsB A],.tuple #[bv (pM (aj A)),.int .i64 (rdE (aj A))])
 | _=>none
theorem Ee {X:Cx} (hX:X.Ok Tryz.prog) (hc:aZ M0 X.gl=true):(X.var M0 80 I9).Ok Tryz.prog:=by
 refine bE hX aL hc Tryz.func80 (by kernel_rfl) (by kernel_rfl) ?_
 intro args ps v ha hg hp
 unfold I9 at hg
 split at hg
 ·rename_i A
  simp only [qG,qH] at hg
  obtain ⟨rfl,rfl⟩:=hg
  have hA:=hp _ (List.mem_singleton.2 rfl)
  refine ⟨.inl (bM _ _),fun w hw => ?_⟩
  have h:=ER (aj A) (aS hA) w hw
  rw [← (show A=bv (aj A) from hA)] at h
  exact h
 ·simp at hg
theorem ze (n:Nat) (a:Nat):sfunG Tryz.prog (F9.tell [(14,true)]) M0 80 Tryz.f55 (ai Tryz.f55) [bv n,bv a]=some ([IsB (bv a),(!(rdE (aj (bv a)) == 0))=true],.tuple #[bv 0,.int .i64 (rdE (aj (bv a)))]):=by kernel_rfl
theorem zG (n:Nat) (a:Nat):sfunG Tryz.prog (F9.tell [(14,false)]) M0 80 Tryz.f55 (ai Tryz.f55) [bv n,bv a]=some ([IsB (bv a),(!(rdE (aj (bv a)) == 0))=false,IsB (bv n)∧IsP (pv (rdP (aj (bv a)))),IsP (pv (dx (aj (bv n)) (p4 (pv (rdP (aj (bv a)))))))],.tuple #[bv (wrN (p4 (pv (dx (aj (bv n)) (p4 (pv (rdP (aj (bv a))))))))),.int .i64 0]):=by kernel_rfl
def qm (n:Nat) (a:Nat):Nat:=if bD a then wrN (dx n (rdP a)) else 0
theorem Ex (n:Nat) (a:Nat) (hn:n<RN) (ha:a<RN) (w:World) (hw:Glo M0 w):Calls Tryz.prog 55 #[bv n,bv a] w fun e w'=>e = .returned (.tuple #[bv (qm n a),.int .i64 (rdE a)])∧Below w.heap.size w w':=by
 cases hk:bD a
 ·have r:=ze n a
  rw [ar ha,fi hk] at r
  rw [fi hk]
  unfold qm
  rw [hk,if_neg Bool.false_ne_true]
  exact az (Cx.tell_ok gH _) mixed aL (by kernel_rfl) Tryz.func55 (by kernel_rfl) r (al (aG _) (al rfl al0)) (by simp [aE]) (.inl (bM _ _)) w hw
 ·have r:=zG n a
  rw [ar ha,ar hn,cN (dI a),cN (iC n (rdP a)),dN hk] at r
  rw [dN hk]
  unfold qm
  rw [hk,if_pos rfl]
  exact az (Cx.tell_ok gH _) mixed aL (by kernel_rfl) Tryz.func55 (by kernel_rfl) r (al (aG _) (al rfl (al ⟨aG _,bR (dI a)⟩ (al (bR (iC _ _)) al0)))) (by simp [aE]) (.inl (bM _ _)) w hw
def gPml:List Value→Option (List Prop × Value)
 | [A,B]=>some ([IsB A∧IsB B],.tuple #[bv (qm (aj A) (aj B)),.int .i64 (rdE (aj B))])
 | _=>none
theorem EV {X:Cx} (hX:X.Ok Tryz.prog) (hc:aZ M0 X.gl=true):(X.var M0 55 gPml).Ok Tryz.prog:=by
 refine bE hX aL hc Tryz.func55 (by kernel_rfl) (by kernel_rfl) ?_
 intro args ps v ha hg hp
 unfold gPml at hg
 split at hg
 ·rename_i A B
  simp only [qG,qH] at hg
  obtain ⟨rfl,rfl⟩:=hg
  obtain ⟨hA,hB⟩:=hp _ (List.mem_singleton.2 rfl)
  refine ⟨.inl (bM _ _),fun w hw => ?_⟩
  have h:=Ex (aj A) (aj B) (aS hA) (aS hB) w hw
  rw [← (show A=bv (aj A) from hA),← (show B=bv (aj B) from hB)] at h
  exact h
 ·simp at hg
theorem Aq (a:Nat):sfunG Tryz.prog (F9.tell [(12,true)]) M0 80 Tryz.f35 (ai Tryz.f35) [bv a]=some ([IsB (bv a),(!(rdE (aj (bv a)) == 0))=true],.tuple #[bv 0,.int .i64 (rdE (aj (bv a)))]):=by kernel_rfl
theorem Au (a:Nat):sfunG Tryz.prog (F9.tell [(12,false)]) M0 80 Tryz.f35 (ai Tryz.f35) [bv a]=some ([IsB (bv a),(!(rdE (aj (bv a)) == 0))=false,IsP (pv (rdP (aj (bv a)))),IsP (pv (dD (p4 (pv (rdP (aj (bv a))))))),IsP (pv (dD (p4 (pv (dD (p4 (pv (rdP (aj (bv a)))))))))),IsP (pv (dD (p4 (pv (dD (p4 (pv (dD (p4 (pv (rdP (aj (bv a)))))))))))))],.tuple #[bv (wrN (p4 (pv (dD (p4 (pv (dD (p4 (pv (dD (p4 (pv (rdP (aj (bv a))))))))))))))),.int .i64 0]):=by kernel_rfl
def lL (a:Nat):Nat:=if bD a then wrN (dD (dD (dD (rdP a)))) else 0
theorem vY (a:Nat) (ha:a<RN) (w:World) (hw:Glo M0 w):Calls Tryz.prog 35 #[bv a] w fun e w'=>e = .returned (.tuple #[bv (lL a),.int .i64 (rdE a)])∧Below w.heap.size w w':=by
 cases hk:bD a
 ·have r:=Aq a
  rw [ar ha,fi hk] at r
  rw [fi hk]
  unfold lL
  rw [hk,if_neg Bool.false_ne_true]
  exact az (Cx.tell_ok gH _) mixed aL (by kernel_rfl) Tryz.func35 (by kernel_rfl) r (al (aG _) (al rfl al0)) (by simp [aE]) (.inl (bM _ _)) w hw
 ·have r:=Au a
  rw [ar ha,cN (dI a),cN (dj (rdP a)),cN (dj (dD (rdP a))),cN (dj (dD (dD (rdP a)))),dN hk] at r
  rw [dN hk]
  unfold lL
  rw [hk,if_pos rfl]
  exact az (Cx.tell_ok gH _) mixed aL (by kernel_rfl) Tryz.func35 (by kernel_rfl) r (al (aG _) (al rfl (al (bR (dI a)) (al (bR (dj _)) (al (bR (dj _)) (al (bR (dj _)) al0)))))) (by simp [aE]) (.inl (bM _ _)) w hw
def H5:List Value→Option (List Prop × Value)
 | [A]=>some ([IsB A],.tuple #[bv (lL (aj A)),.int .i64 (rdE (aj A))])
 | _=>none
theorem Eo {X:Cx} (hX:X.Ok Tryz.prog) (hc:aZ M0 X.gl=true):(X.var M0 35 H5).Ok Tryz.prog:=by
 refine bE hX aL hc Tryz.func35 (by kernel_rfl) (by kernel_rfl) ?_
 intro args ps v ha hg hp
 unfold H5 at hg
 split at hg
 ·rename_i A
  simp only [qG,qH] at hg
  obtain ⟨rfl,rfl⟩:=hg
  have hA:=hp _ (List.mem_singleton.2 rfl)
  refine ⟨.inl (bM _ _),fun w hw => ?_⟩
  have h:=vY (aj A) (aS hA) w hw
  rw [← (show A=bv (aj A) from hA)] at h
  exact h
 ·simp at hg
theorem AU (a:Nat) (b:Nat):sfunG Tryz.prog (F9.tell [(15,true)]) M0 80 Tryz.f81 (ai Tryz.f81) [bv a,bv b]=some ([IsB (bv a),(!(rdE (aj (bv a)) == 0))=true],.tuple #[bv 0,.int .i64 (rdE (aj (bv a)))]):=by kernel_rfl
theorem Ch (a:Nat) (b:Nat):sfunG Tryz.prog (F9.tell [(15,false),(24,true)]) M0 80 Tryz.f81 (ai Tryz.f81) [bv a,bv b]=some ([IsB (bv a),(!(rdE (aj (bv a)) == 0))=false,IsB (bv b),(!(rdE (aj (bv b)) == 0))=true],.tuple #[bv 0,.int .i64 (rdE (aj (bv b)))]):=by kernel_rfl
theorem BH (a:Nat) (b:Nat):sfunG Tryz.prog (F9.tell [(15,false),(24,false)]) M0 80 Tryz.f81 (ai Tryz.f81) [bv a,bv b]=some ([IsB (bv a),(!(rdE (aj (bv a)) == 0))=false,IsB (bv b),(!(rdE (aj (bv b)) == 0))=false,IsP (pv (rdP (aj (bv a))))∧IsP (pv (rdP (aj (bv b)))),IsP (pv (ji (p4 (pv (rdP (aj (bv a))))) (p4 (pv (rdP (aj (bv b)))))))],.tuple #[bv (wrN (p4 (pv (ji (p4 (pv (rdP (aj (bv a))))) (p4 (pv (rdP (aj (bv b))))))))),.int .i64 0]):=by kernel_rfl
def addN (a b:Nat):Nat:=if bD a && bD b then wrN (ji (rdP a) (rdP b)) else 0
def xG (a b:Nat):Int:=if bD a && bD b then 0 else 2
theorem DP (a:Nat) (b:Nat) (ha:a<RN) (hb:b<RN) (w:World) (hw:Glo M0 w):Calls Tryz.prog 81 #[bv a,bv b] w fun e w'=>e = .returned (.tuple #[bv (addN a b),.int .i64 (xG a b)])∧Below w.heap.size w w':=by
 cases hka:bD a
 ·have r:=AU a b
  rw [ar ha,fi hka] at r
  unfold addN xG
  rw [hka,Bool.false_and,if_neg Bool.false_ne_true,if_neg Bool.false_ne_true]
  exact az (Cx.tell_ok gH _) mixed aL (by kernel_rfl) Tryz.func81 (by kernel_rfl) r (al (aG _) (al rfl al0)) (by simp [aE]) (.inl (bM _ _)) w hw
 ·cases hkb:bD b
  ·have r:=Ch a b
   rw [ar ha,ar hb,dN hka,fi hkb] at r
   unfold addN xG
   rw [hka,hkb,Bool.true_and,if_neg Bool.false_ne_true,if_neg Bool.false_ne_true]
   exact az (Cx.tell_ok gH _) mixed aL (by kernel_rfl) Tryz.func81 (by kernel_rfl) r (al (aG _) (al rfl (al (aG _) (al rfl al0)))) (by simp [aE]) (.inl (bM _ _)) w hw
  ·have r:=BH a b
   rw [ar ha,ar hb,dN hka,dN hkb,cN (dI a),cN (dI b),cN (kV (rdP a) (rdP b))] at r
   unfold addN xG
   rw [hka,hkb,Bool.true_and,if_pos rfl,if_pos rfl]
   exact az (Cx.tell_ok gH _) mixed aL (by kernel_rfl) Tryz.func81 (by kernel_rfl) r (al (aG _) (al rfl (al (aG _) (al rfl (al ⟨bR (dI a),bR (dI b)⟩ (al (bR (kV _ _)) al0)))))) (by simp [aE]) (.inl (bM _ _)) w hw
def JY:List Value→Option (List Prop × Value)
 | [A,B]=>some ([IsB A∧IsB B],.tuple #[bv (addN (aj A) (aj B)),.int .i64 (xG (aj A) (aj B))])
 | _=>none
theorem De {X:Cx} (hX:X.Ok Tryz.prog) (hc:aZ M0 X.gl=true):(X.var M0 81 JY).Ok Tryz.prog:=by
 refine bE hX aL hc Tryz.func81 (by kernel_rfl) (by kernel_rfl) ?_
 intro args ps v ha hg hp
 unfold JY at hg
 split at hg
 ·rename_i A B
  simp only [qG,qH] at hg
  obtain ⟨rfl,rfl⟩:=hg
  obtain ⟨hA,hB⟩:=hp _ (List.mem_singleton.2 rfl)
  refine ⟨.inl (bM _ _),fun w hw => ?_⟩
  have h:=DP (aj A) (aj B) (aS hA) (aS hB) w hw
  rw [← (show A=bv (aj A) from hA),← (show B=bv (aj B) from hB)] at h
  exact h
 ·simp at hg
def FA:Cx:=(F9.var M0 54 gZer).var M0 35 H5
theorem Fy:FA.Ok Tryz.prog:=Eo (EK gH (by kernel_rfl)) (by kernel_rfl)
theorem zv (a:Nat):sfunG Tryz.prog (FA.tell [(12,false)]) M0 80 Tryz.f42 (ai Tryz.f42) [bv a]=some ([IsB (bv a),(rdE (aj (bv a)) == 0)=false],.tuple #[.bool false,.int .i64 (rdE (aj (bv a)))]):=by kernel_rfl
theorem Bn (a:Nat):sfunG Tryz.prog (FA.tell [(12,true)]) M0 80 Tryz.f42 (ai Tryz.f42) [bv a]=some ([IsB (bv a),(rdE (aj (bv a)) == 0)=true],.tuple #[.bool (eqB (bl (lL (aj (bv a)))).toArray (bl 1).toArray 32),.int .i64 (rdE (aj (bv a)))]):=by kernel_rfl
def EA (a:Nat):Bool:=bD a && decide (lL a=1)
theorem EW (a:Nat):lL a<RN:=by
 unfold lL
 split
 ·exact zN _
 ·decide
theorem wL (a:Nat):pM a<RN:=by
 unfold pM
 split
 ·exact zN _
 ·decide
theorem o8 (b:Bool) (e:Int):flat (.tuple #[.bool b,.int .i64 e])=true:=rfl
theorem Cz (a:Nat) (ha:a<RN) (w:World) (hw:Glo M0 w):Calls Tryz.prog 42 #[bv a] w fun e w'=>e = .returned (.tuple #[.bool (EA a),.int .i64 (rdE a)])∧Below w.heap.size w w':=by
 cases hk:bD a
 ·have r:=zv a
  rw [ar ha,fi hk] at r
  rw [fi hk]
  unfold EA
  rw [hk,Bool.false_and]
  exact az (Cx.tell_ok Fy _) mixed aL (by kernel_rfl) Tryz.func42 (by kernel_rfl) r (al (aG _) (al rfl al0)) (by simp [aE]) (.inl (o8 _ _)) w hw
 ·have r:=Bn a
  rw [ar ha,dN hk,AZ _ 1 (EW a) (by decide)] at r
  rw [dN hk]
  unfold EA
  rw [hk,Bool.true_and]
  exact az (Cx.tell_ok Fy _) mixed aL (by kernel_rfl) Tryz.func42 (by kernel_rfl) r (al (aG _) (al rfl al0)) (by simp [aE]) (.inl (o8 _ _)) w hw
def F9g:Cx:=(F9.glo gl5).var M1 53 gGen
theorem H6:F9g.Ok Tryz.prog:=Fh (Cx.glo_ok gH fun g h=>Jg h) (by kernel_rfl)
theorem vX:rV.ok:=Cy (by decide) (by decide)
def rX (n:Nat):Nat:=wrN (dx n rV)
theorem ES (n:Nat):sfunG Tryz.prog F9g M1 80 Tryz.f18 (ai Tryz.f18) [bv n]=some ([IsB (bv n)∧IsP (pv rV),IsP (pv (dx (aj (bv n)) (p4 (pv rV))))],bv (wrN (p4 (pv (dx (aj (bv n)) (p4 (pv rV))))))):=by kernel_rfl
theorem vO (n:Nat) (hn:n<RN) (w:World) (hw:Glo M1 w):Calls Tryz.prog 18 #[bv n] w fun e w'=>e = .returned (bv (rX n))∧Below w.heap.size w w':=by
 have r:=ES n
 rw [ar hn,cN vX,cN (iC _ _)] at r
 exact az H6 mixed kS (by kernel_rfl) Tryz.func18 (by kernel_rfl) r (al ⟨aG _,bR vX⟩ (al (bR (iC _ _)) al0)) (by simp [aE]) (.inl (aE _)) w hw
def KQ:List Value→Option (List Prop × Value)
 | [A]=>some ([IsB A],bv (rX (aj A)))
 | _=>none
theorem Ep {X:Cx} (hX:X.Ok Tryz.prog) (hc:aZ M1 X.gl=true):(X.var M1 18 KQ).Ok Tryz.prog:=by
 refine bE hX kS hc Tryz.func18 (by kernel_rfl) (by kernel_rfl) ?_
 intro args ps v ha hg hp
 unfold KQ at hg
 split at hg
 ·rename_i A
  simp only [qG,qH] at hg
  obtain ⟨rfl,rfl⟩:=hg
  have hA:=hp _ (List.mem_singleton.2 rfl)
  refine ⟨.inl (aE _),fun w hw => ?_⟩
  have h:=vO (aj A) (aS hA) w hw
  rw [← (show A=bv (aj A) from hA)] at h
  exact h
 ·simp at hg
end Go.Proofs.YtajehiidpecknaaGreatDoor
