/- Package point: squareOfX, read, write as contracts. -/
import Derived.Test.YtajehiidpecknaaGreatDoorFieT
import Derived.Test.YtajehiidpecknaaGreatDoorPoiE
set_option linter.unusedSimpArgs false
set_option linter.unusedVariables false
namespace Go.Proofs.YtajehiidpecknaaGreatDoor
open Go Go.RowKit
def gSqF:List Value→Option (List Prop × Value)
 | [A]=>some ([IsB A],.tuple #[bv (sqv (aj A)),.int .i64 (sqe (aj A))])
 | _=>none
theorem bO (n:Nat) (e:Int):flat (.tuple #[bv n,.int .i64 e])=true:=by
 show ([bv n,.int .i64 e].all flat2)=true
 have:flat2 (bv n)=true:=aE n
 rw [List.all_cons,this];rfl
theorem oL (p:P4) (e:Int):flat (.tuple #[pv p,.int .i64 e])=true:=by
 show ([pv p,.int .i64 e].all flat2)=true
 have:flat2 (pv p)=true:=aY p
 rw [List.all_cons,this];rfl
theorem EV {X:Cx} (hX:X.Ok Tryz.prog):(X.pure 111 gSqF).Ok Tryz.prog:=by
 refine aC hX Tryz.func111 (by kernel_rfl) (by kernel_rfl) ?_
 intro args ps v ha hg hp
 unfold gSqF at hg
 split at hg
 ·rename_i A
  simp only [qG,qH] at hg
  obtain ⟨rfl,rfl⟩:=hg
  have hA:=hp _ (List.mem_singleton.2 rfl)
  refine ⟨.inl (bO _ _),fun w => ?_⟩
  have h:=Ab (aj A) (aT hA) w
  rw [← (show A=bv (aj A) from hA)] at h
  exact h
 ·simp at hg
def F6:Cx:=F5.pure 111 gSqF
theorem kO:F6.Ok Tryz.prog:=EV mT
def sxN (y:Nat):Nat:=fml (fsb (fml y y) 1) (fiv (fad 1 (fml DN' (fml y y))))
def sqV (y:Nat):Value:=ML (bv y) (bv y)
def dvV (y:Nat):Value:=AD (bv 1) (ML (bv DN') (sqV y))
theorem I2 (y:Nat):sfunG Tryz.prog F6 M0 60 Tryz.f112 (ai Tryz.f112) [bv y]=some ([IB (bv y) (bv y),IB (bv DN') (sqV y),IB (bv 1) (ML (bv DN') (sqV y)),IB (sqV y) (bv 1),IsB (dvV y),IB (SB (sqV y) (bv 1)) (IV (dvV y))],ML (SB (sqV y) (bv 1)) (IV (dvV y))):=by kernel_rfl
theorem IM {y:Nat} (h:y<RN):ML (SB (sqV y) (bv 1)) (IV (dvV y))=bv (sxN y):=by
 have h1:sqV y=bv (fml y y):=de _ _ h h
 have h2:dvV y=bv (fad 1 (fml DN' (fml y y))):=by unfold dvV;rw [h1,de _ _ (by decide) (fx _ _),dH _ _ (by decide) (fx _ _)]
 rw [h1,h2,fb _ _ (fx _ _) (by decide),xD _ (kY _ _),de _ _ (mO _ _) (GS _)]
 rfl
def I4:List Value→Option (List Prop × Value)
 | [A]=>some ([IsB A],bv (sxN (aj A)))
 | _=>none
theorem E1 {X:Cx} (hX:X.Ok Tryz.prog) (hc:a7 M0 X.gl=true):(X.var M0 112 I4).Ok Tryz.prog:=by
 refine bG hX aL hc Tryz.func112 (by kernel_rfl) (by kernel_rfl) ?_
 intro args ps v ha hg hp
 unfold I4 at hg
 split at hg
 ·rename_i A
  simp only [qG,qH] at hg
  obtain ⟨rfl,rfl⟩:=hg
  have hA:=hp _ (List.mem_singleton.2 rfl)
  refine ⟨.inl (aE _),fun w hw => ?_⟩
  have run:=I2 (aj A)
  rw [IM (aT hA)] at run
  have h:=az kO mixed aL (by kernel_rfl) Tryz.func112 (by kernel_rfl) run (by
   intro p hp
   simp only [List.mem_cons,List.not_mem_nil,or_false] at hp
   rcases hp with rfl | rfl | rfl | rfl | rfl | rfl <;> first | exact ib | exact aG _) (by simp [aE]) (.inl (aE _)) w hw
  rw [← (show A=bv (aj A) from hA)] at h
  exact h
 ·simp at hg
def F7:Cx:=F6.var M0 112 I4
theorem CA:F7.Ok Tryz.prog:=E1 kO (by kernel_rfl)
def TT:Nat:=57896044618658097711785492504343953926634992332820282019728792003956564819968
theorem jm:TT=256 ^ 31*128:=by decide
def dz (n:Nat):Value := .agg ((bl n).take 31 ++ [Value.int .u8 (bits .andNot .u8 (by8 n 31) 128)]).toArray
def Js (n:Nat):Value := .agg ((bl n).take 31 ++ [Value.int .u8 (bits .or .u8 (by8 n 31) 128)]).toArray
theorem ix : ∀ y:Fin 256,bits .andNot .u8 ((y.val:Nat):Int) 128=((y.val % 128:Nat):Int)∧(!(bits .and .u8 ((y.val:Nat):Int) 128 == 0))=decide (128≤y.val)∧bits .or .u8 ((y.val:Nat):Int) 128=((y.val % 128+128:Nat):Int)∧(bits .and .u8 ((y.val:Nat):Int) 1 == 1)=decide (y.val % 2=1):=by decide +kernel
theorem nB (n:Nat):bl n=(bl n).take 31 ++ [.int .u8 (by8 n 31)]:=by
 unfold bl
 rw [show (32:Nat)=31+1 from rfl,List.range_succ,List.map_append,List.take_left' (by simp)]
 rfl
theorem jW {m n:Nat} (h:m % 256 ^ 31=n % 256 ^ 31):(bl m).take 31=(bl n).take 31:=by
 unfold bl
 rw [←List.map_take,←List.map_take,List.take_range]
 refine List.map_congr_left fun i hi => ?_
 have hi:i<31:=by simpa using hi
 rw [←jY m 31 i hi,←jY n 31 i hi,h]
theorem l9 (n:Nat) (h:n<RN):dz n=bv (n % TT):=by
 unfold dz bv br
 rw [nB (n % TT)]
 have hb:n/256 ^ 31 % 256<256:=Nat.mod_lt _ (by decide)
 have e1:by8 n 31=((n/256 ^ 31 % 256:Nat):Int):=rfl
 have o:=(ix ⟨n/256 ^ 31 % 256,hb⟩).1
 simp only at o
 have e2:by8 (n % TT) 31=((n/256 ^ 31 % 256 % 128:Nat):Int):=by
  unfold by8
  rw [jm,Nat.mod_mul_right_div_self]
  congr 1
  omega
 rw [e1,o,e2,jW (m:=n % TT) (n:=n) (by rw [jm,Nat.mod_mul_right_mod])]
theorem rP (n:Nat) (h:n<TT):Js n=bv (n+TT):=by
 unfold Js bv br
 rw [nB (n+TT)]
 have hb:n/256 ^ 31 % 256<256:=Nat.mod_lt _ (by decide)
 have e1:by8 n 31=((n/256 ^ 31 % 256:Nat):Int):=rfl
 have o:=(ix ⟨n/256 ^ 31 % 256,hb⟩).2.2.1
 simp only at o
 have hl:n/256 ^ 31<128:=by rw [Nat.div_lt_iff_lt_mul (by decide),Nat.mul_comm,←jm];exact h
 have e2:by8 (n+TT) 31=((n/256 ^ 31 % 256 % 128+128:Nat):Int):=by
  unfold by8
  rw [jm,Nat.add_mul_div_left _ _ (by decide)]
  congr 1
  omega
 rw [e1,o,e2,jW (m:=n+TT) (n:=n) (by rw [jm,Nat.add_mul_mod_self_left])]
def ivV (p:P4):Value:=IV (bv p.z)
def wx (p:P4):Nat:=fml p.x (fiv p.z)
def wy (p:P4):Nat:=fml p.y (fiv p.z)
def wxS (p:P4):Nat:=fml (aj (bv p.x)) (aj (ivV p))
def wyS (p:P4):Nat:=fml (aj (bv p.y)) (aj (ivV p))
theorem DM (p:P4):sfunG Tryz.prog (F7.tell [(20,false)]) M0 60 Tryz.f51 (ai Tryz.f51) [pv p]=some ([IsB (bv p.z),IB (bv p.x) (ivV p),IB (bv p.y) (ivV p),(bits .and .u8 (by8 (wxS p) 0) 1 == 1)=false],bv (wyS p)):=by kernel_rfl
theorem EY (p:P4):sfunG Tryz.prog (F7.tell [(20,true)]) M0 60 Tryz.f51 (ai Tryz.f51) [pv p]=some ([IsB (bv p.z),IB (bv p.x) (ivV p),IB (bv p.y) (ivV p),(bits .and .u8 (by8 (wxS p) 0) 1 == 1)=true],Js (wyS p)):=by kernel_rfl
def wrN (p:P4):Nat:=wy p+wx p % 2*TT
theorem fS:pp<TT:=by decide
theorem AH (p:P4):wrN p<RN:=by
 have h1:wy p<TT:=Nat.lt_trans (eN _ _) fS
 have h2:wx p % 2<2:=Nat.mod_lt _ (by decide)
 have h3:RN=TT+TT:=by decide
 unfold wrN
 rcases (by omega:wx p % 2=0∨wx p % 2=1) with h | h <;> rw [h] <;> omega
theorem yo {p:P4} (lp:p.ok) (w:World) (hw:Glo M0 w):Calls Tryz.prog 51 #[pv p] w fun e w'=>e = .returned (bv (wrN p))∧Below w.heap.size w w':=by
 have e1:ivV p=bv (fiv p.z):=xD _ lp.z
 have e2:wxS p=wx p:=by unfold wxS wx;rw [e1,ar lp.x,ar (GS _)]
 have e3:wyS p=wy p:=by unfold wyS wy;rw [e1,ar lp.y,ar (GS _)]
 have hb:wx p/256 ^ 0 % 256<256:=Nat.mod_lt _ (by decide)
 have o:=(ix ⟨wx p/256 ^ 0 % 256,hb⟩).2.2.2
 simp only at o
 have o:(bits .and .u8 (by8 (wx p) 0) 1 == 1)=decide (wx p % 2=1):=by
  show (bits .and .u8 ((wx p/256 ^ 0 % 256:Nat):Int) 1 == 1)=_
  rw [o,decide_eq_decide,Nat.pow_zero,Nat.div_one,Nat.mod_mod_of_dvd _ (by decide)]
 have hwy:wy p<TT:=Nat.lt_trans (eN _ _) fS
 have r0:=DM p
 have r1:=EY p
 rw [e2,e3,e1] at r0 r1
 rw [o] at r0 r1
 by_cases h:wx p % 2=1
 ·have k:=az (Cx.tell_ok CA _) mixed aL (by kernel_rfl) Tryz.func51 (by kernel_rfl) r1 (by
   intro p hp
   simp only [List.mem_cons,List.not_mem_nil,or_false] at hp
   rcases hp with rfl | rfl | rfl | rfl
   ·exact aG _
   ·exact ib
   ·exact ib
   ·exact decide_eq_true h) (by simp [aY]) (.inl (by rw [rP _ hwy];exact aE _)) w hw
  rw [rP _ hwy] at k
  unfold wrN
  rw [h,Nat.one_mul]
  exact k
 ·have k:=az (Cx.tell_ok CA _) mixed aL (by kernel_rfl) Tryz.func51 (by kernel_rfl) r0 (by
   intro p hp
   simp only [List.mem_cons,List.not_mem_nil,or_false] at hp
   rcases hp with rfl | rfl | rfl | rfl
   ·exact aG _
   ·exact ib
   ·exact ib
   ·exact decide_eq_false h) (by simp [aY]) (.inl (aE _)) w hw
  have h0:wx p % 2=0:=by omega
  unfold wrN
  rw [h0,Nat.zero_mul,Nat.add_zero]
  exact k
def gWr:List Value→Option (List Prop × Value)
 | [A]=>some ([IsP A],bv (wrN (p4 A)))
 | _=>none
theorem It {X:Cx} (hX:X.Ok Tryz.prog) (hc:a7 M0 X.gl=true):(X.var M0 51 gWr).Ok Tryz.prog:=by
 refine bG hX aL hc Tryz.func51 (by kernel_rfl) (by kernel_rfl) ?_
 intro args ps v ha hg hp
 unfold gWr at hg
 split at hg
 ·rename_i A
  simp only [qG,qH] at hg
  obtain ⟨rfl,rfl⟩:=hg
  obtain ⟨hA,lA⟩:=hp _ (List.mem_singleton.2 rfl)
  refine ⟨.inl (aE _),fun w hw => ?_⟩
  have h:=yo lA w hw
  rw [←hA] at h
  exact h
 ·simp at hg
end Go.Proofs.YtajehiidpecknaaGreatDoor
/- Package point: read as a dy. -/
namespace Go.Proofs.YtajehiidpecknaaGreatDoor
open Go Go.RowKit
def F8:Cx:=F7.var M0 51 gWr
theorem kR:F8.Ok Tryz.prog:=It CA (by kernel_rfl)
def kE (n:Nat):Bool := !(bits .and .u8 (by8 n 31) 128 == 0)
def ncB (n:Nat):Bool := !decide (aj (dz n)<pp)
def sxV (n:Nat):Nat:=aj (bv (sxN (aj (dz n))))
def qJ (n:Nat):Bool := !(sqe (sxV n) == 0)
def rtV (n:Nat):Value:=bv (sqv (sxV n))
def yX (n:Nat):Bool:=eqB (bl (sqv (sxV n))).toArray (bl 0).toArray 32
def noP:P4:=⟨0,0,0,0⟩
theorem al0 : ∀ p ∈ ([]:List Prop),p:=fun _ h=>(by cases h)
theorem al {q:Prop} {l:List Prop} (hq:q) (h : ∀ p ∈ l,p) : ∀ p ∈ q :: l,p:=fun p hp=>by
 rcases List.mem_cons.1 hp with rfl | hp
 ·exact hq
 ·exact h p hp
theorem yU (n:Nat):sfunG Tryz.prog (F8.tell [(11,true),(19,true)]) M0 80 Tryz.f70 (ai Tryz.f70) [bv n]=some ([kE n=true,IsB (dz n),ncB n=true],.tuple #[pv noP,.int .i64 2]):=by kernel_rfl
theorem yv (n:Nat):sfunG Tryz.prog (F8.tell [(11,true),(19,false),(28,true)]) M0 80 Tryz.f70 (ai Tryz.f70) [bv n]=some ([kE n=true,IsB (dz n),ncB n=false,IsB (dz n),IsB (bv (sxN (aj (dz n)))),qJ n=true],.tuple #[pv noP,.int .i64 2]):=by kernel_rfl
theorem uY (n:Nat):sfunG Tryz.prog (F8.tell [(11,false),(19,true)]) M0 80 Tryz.f70 (ai Tryz.f70) [bv n]=some ([kE n=false,IsB (dz n),ncB n=true],.tuple #[pv noP,.int .i64 2]):=by kernel_rfl
theorem vB (n:Nat):sfunG Tryz.prog (F8.tell [(11,false),(19,false),(28,true)]) M0 80 Tryz.f70 (ai Tryz.f70) [bv n]=some ([kE n=false,IsB (dz n),ncB n=false,IsB (dz n),IsB (bv (sxN (aj (dz n)))),qJ n=true],.tuple #[pv noP,.int .i64 2]):=by kernel_rfl
theorem Nv (n:Nat):sfunG Tryz.prog (F8.tell [(11,true),(19,false),(28,false),(34,true)]) M0 80 Tryz.f70 (ai Tryz.f70) [bv n]=some ([kE n=true,IsB (dz n),ncB n=false,IsB (dz n),IsB (bv (sxN (aj (dz n)))),qJ n=false,yX n=true],.tuple #[pv noP,.int .i64 2]):=by kernel_rfl
theorem Nx (n:Nat):sfunG Tryz.prog (F8.tell [(11,true),(19,false),(28,false),(34,false)]) M0 80 Tryz.f70 (ai Tryz.f70) [bv n]=some ([kE n=true,IsB (dz n),ncB n=false,IsB (dz n),IsB (bv (sxN (aj (dz n)))),qJ n=false,yX n=false,IB (bv 0) (rtV n),IB (SB (bv 0) (rtV n)) (dz n)],.tuple #[pv (atN (aj (SB (bv 0) (rtV n))) (aj (dz n))),.int .i64 0]):=by kernel_rfl
theorem MH (n:Nat):sfunG Tryz.prog (F8.tell [(11,false),(19,false),(28,false)]) M0 80 Tryz.f70 (ai Tryz.f70) [bv n]=some ([kE n=false,IsB (dz n),ncB n=false,IsB (dz n),IsB (bv (sxN (aj (dz n)))),qJ n=false,IB (rtV n) (dz n)],.tuple #[pv (atN (aj (rtV n)) (aj (dz n))),.int .i64 0]):=by kernel_rfl
def iq (n:Nat):Bool:=decide (TT≤n)
def dU (n:Nat):Nat:=sqv (sxN (n % TT))
def bD (n:Nat):Bool:=decide (n % TT<pp) && (decide (sqe (sxN (n % TT))=0) && !(iq n && decide (dU n=0)))
def rdX (n:Nat):Nat:=if iq n then fsb 0 (dU n) else dU n
def rdP (n:Nat):P4:=if bD n then atN (rdX n) (n % TT) else noP
def rdE (n:Nat):Int:=if bD n then 0 else 2
theorem rB (a:Nat):sqv a<RN:=by
 unfold sqv
 split
 ·unfold ev
  have:=xL a
  have h2:pp<RN:=by decide
  split <;> omega
 ·decide
theorem dM (n:Nat):n % TT<RN:=Nat.lt_trans (Nat.mod_lt _ (by decide)) (by decide)
theorem H6 (y:Nat):sxN y<RN:=fx _ _
theorem xS {n:Nat} (h:n<RN):kE n=iq n:=by
 unfold kE iq
 have hb:n/256 ^ 31 % 256<256:=Nat.mod_lt _ (by decide)
 have o:=(ix ⟨n/256 ^ 31 % 256,hb⟩).2.1
 simp only at o
 show (!(bits .and .u8 ((n/256 ^ 31 % 256:Nat):Int) 128 == 0))=_
 rw [o,decide_eq_decide]
 have h2:n/256 ^ 31<256:=by rw [Nat.div_lt_iff_lt_mul (by decide)];exact Nat.lt_of_lt_of_le h (by decide)
 rw [Nat.mod_eq_of_lt h2,Nat.le_div_iff_mul_le (by decide),jm,Nat.mul_comm]
theorem C8 {n:Nat} (h:n<RN):ncB n = !decide (n % TT<pp):=by
 unfold ncB;rw [l9 n h,ar (dM n)]
theorem vw {n:Nat} (h:n<RN):sxV n=sxN (n % TT):=by
 unfold sxV;rw [l9 n h,ar (dM n),ar (H6 _)]
theorem wW {n:Nat} (h:n<RN):qJ n = !decide (sqe (sxN (n % TT))=0):=by
 unfold qJ;rw [vw h]
 by_cases e:sqe (sxN (n % TT))=0 <;> simp [e]
theorem BV {n:Nat} (h:n<RN):rtV n=bv (dU n):=by unfold rtV dU;rw [vw h]
theorem Cs (m n:Nat) (hm:m<RN) (hn:n<RN):eqB (bl m).toArray (bl n).toArray 32=decide (m=n):=by
 have g : ∀ k i,i<32→ir (bl k).toArray i=by8 k i:=fun k i hi=>by
  unfold ir
  have:(bl k).toArray[i]? = some (.int .u8 (by8 k i)):=by simp [bl,hi]
  rw [this]
 unfold eqB
 by_cases h:m=n
 ·subst h
  rw [decide_eq_true rfl]
  exact List.all_eq_true.2 fun i _=>by simp
 ·rw [decide_eq_false h]
  apply Bool.eq_false_iff.2
  intro hall
  apply h
  have key:=uN (m:=m) (n:=n) 32 (fun i hi=>by
   have:=List.all_eq_true.1 hall i (List.mem_range.2 hi)
   rw [g m i hi,g n i hi] at this
   simpa using this)
  have e:256 ^ 32=RN:=by decide
  rw [e,Nat.mod_eq_of_lt hm,Nat.mod_eq_of_lt hn] at key
  exact key
theorem wI {n:Nat} (h:n<RN):yX n=decide (dU n=0):=by
 unfold yX;rw [vw h];exact Cs _ 0 (rB _) (by decide)
theorem dW (n:Nat):(rdP n).ok:=by
 unfold rdP
 split
 ·refine AJ ?_ (dM n)
  unfold rdX
  split
  ·exact mO _ _
  ·exact rB _
 ·exact ⟨by decide,by decide,by decide,by decide⟩
theorem Af (n:Nat) (h:n<RN) (w:World) (hw:Glo M0 w):Calls Tryz.prog 70 #[bv n] w fun e w'=>e = .returned (.tuple #[pv (rdP n),.int .i64 (rdE n)])∧Below w.heap.size w w':=by
 have hl:=l9 n h
 have fin : ∀ {X:Cx} (hX:X.Ok Tryz.prog) (hin:lP M0 X.gl=true) {ps:List Prop} {v:Value} (run:sfunG Tryz.prog X M0 80 Tryz.f70 (ai Tryz.f70) [bv n]=some (ps,v)) (hp : ∀ p ∈ ps,p) (hv:v = .tuple #[pv (rdP n),.int .i64 (rdE n)]),Calls Tryz.prog 70 #[bv n] w fun e w'=>e = .returned (.tuple #[pv (rdP n),.int .i64 (rdE n)])∧Below w.heap.size w w':=by
  intro X hX hin ps v run hp hv
  subst hv
  exact az hX mixed aL hin Tryz.func70 (by kernel_rfl) run hp (by simp [aE]) (.inl (oL _ _)) w hw
 have bad:bD n=false→(Value.tuple #[pv noP,.int .i64 2]) = .tuple #[pv (rdP n),.int .i64 (rdE n)]:=fun hk=>by
  unfold rdP rdE;rw [hk,if_neg Bool.false_ne_true,if_neg Bool.false_ne_true]
 have hrt:dU n<RN:=rB _
 have IL:IsB (dz n):=by rw [hl];exact aG _
 have bl':aj (dz n)=n % TT:=by rw [hl,ar (dM n)]
 by_cases hc:n % TT<pp
 ·have c1:ncB n=false:=by rw [C8 h];simp [hc]
  by_cases he:sqe (sxN (n % TT))=0
  ·have e1:qJ n=false:=by rw [wW h];simp [he]
   by_cases ho:iq n=true
   ·have o1:kE n=true:=by rw [xS h];exact ho
    by_cases hz:dU n=0
    ·have z1:yX n=true:=by rw [wI h];simp [hz]
     exact fin (Cx.tell_ok kR _) (by kernel_rfl) (Nv n) (al o1 (al IL (al c1 (al IL (al (aG _) (al e1 (al z1 al0))))))) (bad (by unfold bD;simp [ho,hz]))
    ·have z1:yX n=false:=by rw [wI h];simp [hz]
     have hk:bD n=true:=by unfold bD;simp [hc,he,ho,hz]
     refine fin (Cx.tell_ok kR _) (by kernel_rfl) (Nx n) (al o1 (al IL (al c1 (al IL (al (aG _) (al e1 (al z1 (al ib (al ⟨aG _,IL⟩ al0))))))))) ?_
     ·unfold rdP rdE rdX
      rw [hk,ho,bl',BV h,fb 0 (dU n) (by decide) hrt,ar (mO _ _),if_pos rfl,if_pos rfl,if_pos rfl]
   ·have ho:iq n=false:=by simpa using ho
    have o1:kE n=false:=by rw [xS h];exact ho
    have hk:bD n=true:=by unfold bD;simp [hc,he,ho]
    refine fin (Cx.tell_ok kR _) (by kernel_rfl) (MH n) (al o1 (al IL (al c1 (al IL (al (aG _) (al e1 (al ⟨aG _,IL⟩ al0))))))) ?_
    ·unfold rdP rdE rdX
     rw [hk,ho,bl',BV h,ar hrt,if_pos rfl,if_pos rfl,if_neg Bool.false_ne_true]
  ·have e1:qJ n=true:=by rw [wW h];simp [he]
   have hk:bD n=false:=by unfold bD;simp [he]
   cases ho:kE n
   ·exact fin (Cx.tell_ok kR _) (by kernel_rfl) (vB n) (al ho (al IL (al c1 (al IL (al (aG _) (al e1 al0)))))) (bad hk)
   ·exact fin (Cx.tell_ok kR _) (by kernel_rfl) (yv n) (al ho (al IL (al c1 (al IL (al (aG _) (al e1 al0)))))) (bad hk)
 ·have c1:ncB n=true:=by rw [C8 h];simp [hc]
  have hk:bD n=false:=by unfold bD;simp [hc]
  cases ho:kE n
  ·exact fin (Cx.tell_ok kR _) (by kernel_rfl) (uY n) (al ho (al IL (al c1 al0))) (bad hk)
  ·exact fin (Cx.tell_ok kR _) (by kernel_rfl) (yU n) (al ho (al IL (al c1 al0))) (bad hk)
def gRdp:List Value→Option (List Prop × Value)
 | [A]=>some ([IsB A],.tuple #[pv (rdP (aj A)),.int .i64 (rdE (aj A))])
 | _=>none
theorem D0 {X:Cx} (hX:X.Ok Tryz.prog) (hc:a7 M0 X.gl=true):(X.var M0 70 gRdp).Ok Tryz.prog:=by
 refine bG hX aL hc Tryz.func70 (by kernel_rfl) (by kernel_rfl) ?_
 intro args ps v ha hg hp
 unfold gRdp at hg
 split at hg
 ·rename_i A
  simp only [qG,qH] at hg
  obtain ⟨rfl,rfl⟩:=hg
  have hA:=hp _ (List.mem_singleton.2 rfl)
  refine ⟨.inl (oL _ _),fun w hw => ?_⟩
  have h:=Af (aj A) (aT hA) w hw
  rw [← (show A=bv (aj A) from hA)] at h
  exact h
 ·simp at hg
def F9:Cx:=F8.var M0 70 gRdp
theorem gN:F9.Ok Tryz.prog:=D0 kR (by kernel_rfl)
end Go.Proofs.YtajehiidpecknaaGreatDoor
/- Package point: what it exports, as contracts. -/
namespace Go.Proofs.YtajehiidpecknaaGreatDoor
open Go Go.RowKit
theorem dO {n:Nat} (h:bD n=true):rdE n=0:=by unfold rdE;rw [h,if_pos rfl]
theorem eJ {n:Nat} (h:bD n=false):rdE n=2:=by unfold rdE;rw [h,if_neg Bool.false_ne_true]
theorem EI  : sfunG Tryz.prog F9 M0 80 Tryz.f54 (ai Tryz.f54) []=some ([],bv 1):=by kernel_rfl
theorem xH   (w:World) (hw:Glo M0 w):Calls Tryz.prog 54 #[] w fun e w'=>e = .returned (bv 1)∧Below w.heap.size w w':=by
 exact az gN mixed aL (by kernel_rfl) Tryz.func54 (by kernel_rfl) EI (al0) rfl (.inl (aE _)) w hw
def gZer:List Value→Option (List Prop × Value)
 | []=>some ([],bv 1)
 | _=>none
theorem EE {X:Cx} (hX:X.Ok Tryz.prog) (hc:a7 M0 X.gl=true):(X.var M0 54 gZer).Ok Tryz.prog:=by
 refine bG hX aL hc Tryz.func54 (by kernel_rfl) (by kernel_rfl) ?_
 intro args ps v ha hg hp
 unfold gZer at hg
 split at hg
 ·simp only [qG,qH] at hg
  obtain ⟨rfl,rfl⟩:=hg
  exact ⟨.inl (aE _),fun w hw=>xH w hw⟩
 ·simp at hg
def IP:List Value→Option (List Prop × Value)
 | []=>some ([],bv GY)
 | _=>none
def gChk:List Value→Option (List Prop × Value)
 | [A]=>some ([IsB A],.int .i64 (rdE (aj A)))
 | _=>none
theorem Bk (a:Nat):sfunG Tryz.prog (F9.tell [(12,true)]) M0 80 Tryz.f80 (ai Tryz.f80) [bv a]=some ([IsB (bv a),(!(rdE (aj (bv a)) == 0))=true],.tuple #[bv 0,.int .i64 (rdE (aj (bv a)))]):=by kernel_rfl
theorem Bu (a:Nat):sfunG Tryz.prog (F9.tell [(12,false)]) M0 80 Tryz.f80 (ai Tryz.f80) [bv a]=some ([IsB (bv a),(!(rdE (aj (bv a)) == 0))=false,IsP (pv (rdP (aj (bv a)))),IsP (pv (vv (p4 (pv (rdP (aj (bv a)))))))],.tuple #[bv (wrN (p4 (pv (vv (p4 (pv (rdP (aj (bv a))))))))),.int .i64 0]):=by kernel_rfl
def mS (a:Nat):Nat:=if bD a then wrN (vv (rdP a)) else 0
theorem EC (a:Nat) (ha:a<RN) (w:World) (hw:Glo M0 w):Calls Tryz.prog 80 #[bv a] w fun e w'=>e = .returned (.tuple #[bv (mS a),.int .i64 (rdE a)])∧Below w.heap.size w w':=by
 cases hk:bD a
 ·have r:=Bk a
  rw [ar ha,eJ hk] at r
  rw [eJ hk]
  unfold mS
  rw [hk,if_neg Bool.false_ne_true]
  exact az (Cx.tell_ok gN _) mixed aL (by kernel_rfl) Tryz.func80 (by kernel_rfl) r (al (aG _) (al rfl al0)) (by simp [aE]) (.inl (bO _ _)) w hw
 ·have r:=Bu a
  rw [ar ha,cS (dW a),cS (xP (dW a)),dO hk] at r
  rw [dO hk]
  unfold mS
  rw [hk,if_pos rfl]
  exact az (Cx.tell_ok gN _) mixed aL (by kernel_rfl) Tryz.func80 (by kernel_rfl) r (al (aG _) (al rfl (al (bQ (dW a)) (al (bQ (xP (dW a))) al0)))) (by simp [aE]) (.inl (bO _ _)) w hw
def KB:List Value→Option (List Prop × Value)
 | [A]=>some ([IsB A],.tuple #[bv (mS (aj A)),.int .i64 (rdE (aj A))])
 | _=>none
theorem Db {X:Cx} (hX:X.Ok Tryz.prog) (hc:a7 M0 X.gl=true):(X.var M0 80 KB).Ok Tryz.prog:=by
 refine bG hX aL hc Tryz.func80 (by kernel_rfl) (by kernel_rfl) ?_
 intro args ps v ha hg hp
 unfold KB at hg
 split at hg
 ·rename_i A
  simp only [qG,qH] at hg
  obtain ⟨rfl,rfl⟩:=hg
  have hA:=hp _ (List.mem_singleton.2 rfl)
  refine ⟨.inl (bO _ _),fun w hw => ?_⟩
  have h:=EC (aj A) (aT hA) w hw
  rw [← (show A=bv (aj A) from hA)] at h
  exact h
 ·simp at hg
theorem CF (n:Nat) (a:Nat):sfunG Tryz.prog (F9.tell [(14,true)]) M0 80 Tryz.f55 (ai Tryz.f55) [bv n,bv a]=some ([IsB (bv a),(!(rdE (aj (bv a)) == 0))=true],.tuple #[bv 0,.int .i64 (rdE (aj (bv a)))]):=by kernel_rfl
theorem Cm (n:Nat) (a:Nat):sfunG Tryz.prog (F9.tell [(14,false)]) M0 80 Tryz.f55 (ai Tryz.f55) [bv n,bv a]=some ([IsB (bv a),(!(rdE (aj (bv a)) == 0))=false,IsB (bv n)∧IsP (pv (rdP (aj (bv a)))),IsP (pv (cq (aj (bv n)) (p4 (pv (rdP (aj (bv a)))))))],.tuple #[bv (wrN (p4 (pv (cq (aj (bv n)) (p4 (pv (rdP (aj (bv a))))))))),.int .i64 0]):=by kernel_rfl
def p7 (n:Nat) (a:Nat):Nat:=if bD a then wrN (cq n (rdP a)) else 0
theorem EH (n:Nat) (a:Nat) (hn:n<RN) (ha:a<RN) (w:World) (hw:Glo M0 w):Calls Tryz.prog 55 #[bv n,bv a] w fun e w'=>e = .returned (.tuple #[bv (p7 n a),.int .i64 (rdE a)])∧Below w.heap.size w w':=by
 cases hk:bD a
 ·have r:=CF n a
  rw [ar ha,eJ hk] at r
  rw [eJ hk]
  unfold p7
  rw [hk,if_neg Bool.false_ne_true]
  exact az (Cx.tell_ok gN _) mixed aL (by kernel_rfl) Tryz.func55 (by kernel_rfl) r (al (aG _) (al rfl al0)) (by simp [aE]) (.inl (bO _ _)) w hw
 ·have r:=Cm n a
  rw [ar ha,ar hn,cS (dW a),cS (iF n (rdP a)),dO hk] at r
  rw [dO hk]
  unfold p7
  rw [hk,if_pos rfl]
  exact az (Cx.tell_ok gN _) mixed aL (by kernel_rfl) Tryz.func55 (by kernel_rfl) r (al (aG _) (al rfl (al ⟨aG _,bQ (dW a)⟩ (al (bQ (iF _ _)) al0)))) (by simp [aE]) (.inl (bO _ _)) w hw
def gPml:List Value→Option (List Prop × Value)
 | [A,B]=>some ([IsB A∧IsB B],.tuple #[bv (p7 (aj A) (aj B)),.int .i64 (rdE (aj B))])
 | _=>none
theorem EJ {X:Cx} (hX:X.Ok Tryz.prog) (hc:a7 M0 X.gl=true):(X.var M0 55 gPml).Ok Tryz.prog:=by
 refine bG hX aL hc Tryz.func55 (by kernel_rfl) (by kernel_rfl) ?_
 intro args ps v ha hg hp
 unfold gPml at hg
 split at hg
 ·rename_i A B
  simp only [qG,qH] at hg
  obtain ⟨rfl,rfl⟩:=hg
  obtain ⟨hA,hB⟩:=hp _ (List.mem_singleton.2 rfl)
  refine ⟨.inl (bO _ _),fun w hw => ?_⟩
  have h:=EH (aj A) (aj B) (aT hA) (aT hB) w hw
  rw [← (show A=bv (aj A) from hA),← (show B=bv (aj B) from hB)] at h
  exact h
 ·simp at hg
theorem CQ (a:Nat):sfunG Tryz.prog (F9.tell [(12,true)]) M0 80 Tryz.f35 (ai Tryz.f35) [bv a]=some ([IsB (bv a),(!(rdE (aj (bv a)) == 0))=true],.tuple #[bv 0,.int .i64 (rdE (aj (bv a)))]):=by kernel_rfl
theorem zD (a:Nat):sfunG Tryz.prog (F9.tell [(12,false)]) M0 80 Tryz.f35 (ai Tryz.f35) [bv a]=some ([IsB (bv a),(!(rdE (aj (bv a)) == 0))=false,IsP (pv (rdP (aj (bv a)))),IsP (pv (dI (p4 (pv (rdP (aj (bv a))))))),IsP (pv (dI (p4 (pv (dI (p4 (pv (rdP (aj (bv a)))))))))),IsP (pv (dI (p4 (pv (dI (p4 (pv (dI (p4 (pv (rdP (aj (bv a)))))))))))))],.tuple #[bv (wrN (p4 (pv (dI (p4 (pv (dI (p4 (pv (dI (p4 (pv (rdP (aj (bv a))))))))))))))),.int .i64 0]):=by kernel_rfl
def nf (a:Nat):Nat:=if bD a then wrN (dI (dI (dI (rdP a)))) else 0
theorem xi (a:Nat) (ha:a<RN) (w:World) (hw:Glo M0 w):Calls Tryz.prog 35 #[bv a] w fun e w'=>e = .returned (.tuple #[bv (nf a),.int .i64 (rdE a)])∧Below w.heap.size w w':=by
 cases hk:bD a
 ·have r:=CQ a
  rw [ar ha,eJ hk] at r
  rw [eJ hk]
  unfold nf
  rw [hk,if_neg Bool.false_ne_true]
  exact az (Cx.tell_ok gN _) mixed aL (by kernel_rfl) Tryz.func35 (by kernel_rfl) r (al (aG _) (al rfl al0)) (by simp [aE]) (.inl (bO _ _)) w hw
 ·have r:=zD a
  rw [ar ha,cS (dW a),cS (dx (rdP a)),cS (dx (dI (rdP a))),cS (dx (dI (dI (rdP a)))),dO hk] at r
  rw [dO hk]
  unfold nf
  rw [hk,if_pos rfl]
  exact az (Cx.tell_ok gN _) mixed aL (by kernel_rfl) Tryz.func35 (by kernel_rfl) r (al (aG _) (al rfl (al (bQ (dW a)) (al (bQ (dx _)) (al (bQ (dx _)) (al (bQ (dx _)) al0)))))) (by simp [aE]) (.inl (bO _ _)) w hw
def I6:List Value→Option (List Prop × Value)
 | [A]=>some ([IsB A],.tuple #[bv (nf (aj A)),.int .i64 (rdE (aj A))])
 | _=>none
theorem EU {X:Cx} (hX:X.Ok Tryz.prog) (hc:a7 M0 X.gl=true):(X.var M0 35 I6).Ok Tryz.prog:=by
 refine bG hX aL hc Tryz.func35 (by kernel_rfl) (by kernel_rfl) ?_
 intro args ps v ha hg hp
 unfold I6 at hg
 split at hg
 ·rename_i A
  simp only [qG,qH] at hg
  obtain ⟨rfl,rfl⟩:=hg
  have hA:=hp _ (List.mem_singleton.2 rfl)
  refine ⟨.inl (bO _ _),fun w hw => ?_⟩
  have h:=xi (aj A) (aT hA) w hw
  rw [← (show A=bv (aj A) from hA)] at h
  exact h
 ·simp at hg
theorem BD (a:Nat) (b:Nat):sfunG Tryz.prog (F9.tell [(15,true)]) M0 80 Tryz.f81 (ai Tryz.f81) [bv a,bv b]=some ([IsB (bv a),(!(rdE (aj (bv a)) == 0))=true],.tuple #[bv 0,.int .i64 (rdE (aj (bv a)))]):=by kernel_rfl
theorem Cp (a:Nat) (b:Nat):sfunG Tryz.prog (F9.tell [(15,false),(24,true)]) M0 80 Tryz.f81 (ai Tryz.f81) [bv a,bv b]=some ([IsB (bv a),(!(rdE (aj (bv a)) == 0))=false,IsB (bv b),(!(rdE (aj (bv b)) == 0))=true],.tuple #[bv 0,.int .i64 (rdE (aj (bv b)))]):=by kernel_rfl
theorem Ak (a:Nat) (b:Nat):sfunG Tryz.prog (F9.tell [(15,false),(24,false)]) M0 80 Tryz.f81 (ai Tryz.f81) [bv a,bv b]=some ([IsB (bv a),(!(rdE (aj (bv a)) == 0))=false,IsB (bv b),(!(rdE (aj (bv b)) == 0))=false,IsP (pv (rdP (aj (bv a))))∧IsP (pv (rdP (aj (bv b)))),IsP (pv (jh (p4 (pv (rdP (aj (bv a))))) (p4 (pv (rdP (aj (bv b)))))))],.tuple #[bv (wrN (p4 (pv (jh (p4 (pv (rdP (aj (bv a))))) (p4 (pv (rdP (aj (bv b))))))))),.int .i64 0]):=by kernel_rfl
def addN (a b:Nat):Nat:=if bD a && bD b then wrN (jh (rdP a) (rdP b)) else 0
def sQ (a b:Nat):Int:=if bD a && bD b then 0 else 2
theorem EG (a:Nat) (b:Nat) (ha:a<RN) (hb:b<RN) (w:World) (hw:Glo M0 w):Calls Tryz.prog 81 #[bv a,bv b] w fun e w'=>e = .returned (.tuple #[bv (addN a b),.int .i64 (sQ a b)])∧Below w.heap.size w w':=by
 cases hka:bD a
 ·have r:=BD a b
  rw [ar ha,eJ hka] at r
  unfold addN sQ
  rw [hka,Bool.false_and,if_neg Bool.false_ne_true,if_neg Bool.false_ne_true]
  exact az (Cx.tell_ok gN _) mixed aL (by kernel_rfl) Tryz.func81 (by kernel_rfl) r (al (aG _) (al rfl al0)) (by simp [aE]) (.inl (bO _ _)) w hw
 ·cases hkb:bD b
  ·have r:=Cp a b
   rw [ar ha,ar hb,dO hka,eJ hkb] at r
   unfold addN sQ
   rw [hka,hkb,Bool.true_and,if_neg Bool.false_ne_true,if_neg Bool.false_ne_true]
   exact az (Cx.tell_ok gN _) mixed aL (by kernel_rfl) Tryz.func81 (by kernel_rfl) r (al (aG _) (al rfl (al (aG _) (al rfl al0)))) (by simp [aE]) (.inl (bO _ _)) w hw
  ·have r:=Ak a b
   rw [ar ha,ar hb,dO hka,dO hkb,cS (dW a),cS (dW b),cS (lY (rdP a) (rdP b))] at r
   unfold addN sQ
   rw [hka,hkb,Bool.true_and,if_pos rfl,if_pos rfl]
   exact az (Cx.tell_ok gN _) mixed aL (by kernel_rfl) Tryz.func81 (by kernel_rfl) r (al (aG _) (al rfl (al (aG _) (al rfl (al ⟨bQ (dW a),bQ (dW b)⟩ (al (bQ (lY _ _)) al0)))))) (by simp [aE]) (.inl (bO _ _)) w hw
def K9:List Value→Option (List Prop × Value)
 | [A,B]=>some ([IsB A∧IsB B],.tuple #[bv (addN (aj A) (aj B)),.int .i64 (sQ (aj A) (aj B))])
 | _=>none
theorem FY {X:Cx} (hX:X.Ok Tryz.prog) (hc:a7 M0 X.gl=true):(X.var M0 81 K9).Ok Tryz.prog:=by
 refine bG hX aL hc Tryz.func81 (by kernel_rfl) (by kernel_rfl) ?_
 intro args ps v ha hg hp
 unfold K9 at hg
 split at hg
 ·rename_i A B
  simp only [qG,qH] at hg
  obtain ⟨rfl,rfl⟩:=hg
  obtain ⟨hA,hB⟩:=hp _ (List.mem_singleton.2 rfl)
  refine ⟨.inl (bO _ _),fun w hw => ?_⟩
  have h:=EG (aj A) (aj B) (aT hA) (aT hB) w hw
  rw [← (show A=bv (aj A) from hA),← (show B=bv (aj B) from hB)] at h
  exact h
 ·simp at hg
def FA:Cx:=(F9.var M0 54 gZer).var M0 35 I6
theorem GH:FA.Ok Tryz.prog:=EU (EE gN (by kernel_rfl)) (by kernel_rfl)
theorem Cz (a:Nat):sfunG Tryz.prog (FA.tell [(12,false)]) M0 80 Tryz.f42 (ai Tryz.f42) [bv a]=some ([IsB (bv a),(rdE (aj (bv a)) == 0)=false],.tuple #[.bool false,.int .i64 (rdE (aj (bv a)))]):=by kernel_rfl
theorem AG (a:Nat):sfunG Tryz.prog (FA.tell [(12,true)]) M0 80 Tryz.f42 (ai Tryz.f42) [bv a]=some ([IsB (bv a),(rdE (aj (bv a)) == 0)=true],.tuple #[.bool (eqB (bl (nf (aj (bv a)))).toArray (bl 1).toArray 32),.int .i64 (rdE (aj (bv a)))]):=by kernel_rfl
def y9 (a:Nat):Bool:=bD a && decide (nf a=1)
theorem Fa (a:Nat):nf a<RN:=by
 unfold nf
 split
 ·exact AH _
 ·decide
theorem xo (a:Nat):mS a<RN:=by
 unfold mS
 split
 ·exact AH _
 ·decide
theorem ot (b:Bool) (e:Int):flat (.tuple #[.bool b,.int .i64 e])=true:=rfl
theorem ED (a:Nat) (ha:a<RN) (w:World) (hw:Glo M0 w):Calls Tryz.prog 42 #[bv a] w fun e w'=>e = .returned (.tuple #[.bool (y9 a),.int .i64 (rdE a)])∧Below w.heap.size w w':=by
 cases hk:bD a
 ·have r:=Cz a
  rw [ar ha,eJ hk] at r
  rw [eJ hk]
  unfold y9
  rw [hk,Bool.false_and]
  exact az (Cx.tell_ok GH _) mixed aL (by kernel_rfl) Tryz.func42 (by kernel_rfl) r (al (aG _) (al rfl al0)) (by simp [aE]) (.inl (ot _ _)) w hw
 ·have r:=AG a
  rw [ar ha,dO hk,Cs _ 1 (Fa a) (by decide)] at r
  rw [dO hk]
  unfold y9
  rw [hk,Bool.true_and]
  exact az (Cx.tell_ok GH _) mixed aL (by kernel_rfl) Tryz.func42 (by kernel_rfl) r (al (aG _) (al rfl al0)) (by simp [aE]) (.inl (ot _ _)) w hw
def F9g:Cx:=(F9.glo gl5).var M1 53 gGen
theorem IC:F9g.Ok Tryz.prog:=Dk (Cx.glo_ok gN fun g h=>JV h) (by kernel_rfl)
theorem xx:jG.ok:=AJ (by decide) (by decide)
def p8 (n:Nat):Nat:=wrN (cq n jG)
theorem Df (n:Nat):sfunG Tryz.prog F9g M1 80 Tryz.f18 (ai Tryz.f18) [bv n]=some ([IsB (bv n)∧IsP (pv jG),IsP (pv (cq (aj (bv n)) (p4 (pv jG))))],bv (wrN (p4 (pv (cq (aj (bv n)) (p4 (pv jG))))))):=by kernel_rfl
theorem xA (n:Nat) (hn:n<RN) (w:World) (hw:Glo M1 w):Calls Tryz.prog 18 #[bv n] w fun e w'=>e = .returned (bv (p8 n))∧Below w.heap.size w w':=by
 have r:=Df n
 rw [ar hn,cS xx,cS (iF _ _)] at r
 exact az IC mixed lV (by kernel_rfl) Tryz.func18 (by kernel_rfl) r (al ⟨aG _,bQ xx⟩ (al (bQ (iF _ _)) al0)) (by simp [aE]) (.inl (aE _)) w hw
def LD:List Value→Option (List Prop × Value)
 | [A]=>some ([IsB A],bv (p8 (aj A)))
 | _=>none
theorem Dr {X:Cx} (hX:X.Ok Tryz.prog) (hc:a7 M1 X.gl=true):(X.var M1 18 LD).Ok Tryz.prog:=by
 refine bG hX lV hc Tryz.func18 (by kernel_rfl) (by kernel_rfl) ?_
 intro args ps v ha hg hp
 unfold LD at hg
 split at hg
 ·rename_i A
  simp only [qG,qH] at hg
  obtain ⟨rfl,rfl⟩:=hg
  have hA:=hp _ (List.mem_singleton.2 rfl)
  refine ⟨.inl (aE _),fun w hw => ?_⟩
  have h:=xA (aj A) (aT hA) w hw
  rw [← (show A=bv (aj A) from hA)] at h
  exact h
 ·simp at hg
end Go.Proofs.YtajehiidpecknaaGreatDoor
