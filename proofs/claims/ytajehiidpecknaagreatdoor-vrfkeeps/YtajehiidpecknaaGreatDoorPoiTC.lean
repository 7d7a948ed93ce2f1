/- The curve's reference: Decode as a mC. -/
import Derived.Test.YtajehiidpecknaaGreatDoorPoiTA
import Derived.Test.YtajehiidpecknaaGreatDoorPoiJ
set_option linter.all false
namespace Go.Proofs.YtajehiidpecknaaGreatDoor
open Go Go.RowKit
def ga (n:Nat):Value := .agg ((bl n).take 31 ++ [Value.int .u8 (bits .and .u8 (by8 n 31) 127)]).toArray
def odQ (n:Nat):Int:=Int.fdiv (by8 n 31) (2 ^ 7)
def dyV (n:Nat):Value:=nv (aj (ga n))
def du (n:Nat):Value:=WM (dyV n) (dyV n)
def duV (n:Nat):Value:=WA (WM (nv DN') (du n)) (nv 1)
def dsV (n:Nat):Value:=WM (WS (du n) (nv 1)) (WI (duV n))
def drN (n:Nat):Nat:=rt (aW (dsV n))
def pH (n:Nat):Bool := !decide (drN n*drN n % pp=aW (dsV n) % pp)
def ncQ (n:Nat):Bool := !decide (aj (ga n)<pp)
def s8 (n:Nat):Bool:=eqB (nl (drN n)).toArray (nl 0).toArray 4
def rB (n:Nat):Bool := !(Dv (drN n) == odQ n)
theorem Lh (n:Nat):sfun Tryz.prog (H2.tell [(18,true)]) 80 Tryz.f45 (ai Tryz.f45) [bv n]=some ([IsB (ga n),ncQ n=true],.tuple #[qv noP,.bool false]):=by kernel_rfl
theorem Mk (n:Nat):sfun Tryz.prog (H2.tell [(18,false),(40,true)]) 80 Tryz.f45 (ai Tryz.f45) [bv n]=some ([IsB (ga n),ncQ n=false,IsB (ga n),IW (dyV n) (dyV n),IW (du n) (nv 1),IW (nv DN') (du n),IW (WM (nv DN') (du n)) (nv 1),IsW (duV n),IW (WS (du n) (nv 1)) (WI (duV n)),IsW (dsV n),pH n=true],.tuple #[qv noP,.bool false]):=by kernel_rfl
theorem Mc (n:Nat):sfun Tryz.prog (H2.tell [(18,false),(40,false),(44,true),(47,true)]) 80 Tryz.f45 (ai Tryz.f45) [bv n]=some ([IsB (ga n),ncQ n=false,IsB (ga n),IW (dyV n) (dyV n),IW (du n) (nv 1),IW (nv DN') (du n),IW (WM (nv DN') (du n)) (nv 1),IsW (duV n),IW (WS (du n) (nv 1)) (WI (duV n)),IsW (dsV n),pH n=false,s8 n=true,(odQ n == 1)=true],.tuple #[qv noP,.bool false]):=by kernel_rfl
theorem KL (n:Nat):sfun Tryz.prog (H2.tell [(18,false),(40,false),(44,true),(47,false),(55,false)]) 80 Tryz.f45 (ai Tryz.f45) [bv n]=some ([IsB (ga n),ncQ n=false,IsB (ga n),IW (dyV n) (dyV n),IW (du n) (nv 1),IW (nv DN') (du n),IW (WM (nv DN') (du n)) (nv 1),IsW (duV n),IW (WS (du n) (nv 1)) (WI (duV n)),IsW (dsV n),pH n=false,s8 n=true,(odQ n == 1)=false,rB n=false,IW (nv (drN n)) (dyV n)],.tuple #[qv ⟨drN n,aj (ga n),1,rfm (aW (nv (drN n))) (aW (dyV n))⟩,.bool true]):=by kernel_rfl
theorem J8 (n:Nat):sfun Tryz.prog (H2.tell [(18,false),(40,false),(44,false),(55,false)]) 80 Tryz.f45 (ai Tryz.f45) [bv n]=some ([IsB (ga n),ncQ n=false,IsB (ga n),IW (dyV n) (dyV n),IW (du n) (nv 1),IW (nv DN') (du n),IW (WM (nv DN') (du n)) (nv 1),IsW (duV n),IW (WS (du n) (nv 1)) (WI (duV n)),IsW (dsV n),pH n=false,s8 n=false,rB n=false,IW (nv (drN n)) (dyV n)],.tuple #[qv ⟨drN n,aj (ga n),1,rfm (aW (nv (drN n))) (aW (dyV n))⟩,.bool true]):=by kernel_rfl
theorem Kl (n:Nat):sfun Tryz.prog (H2.tell [(18,false),(40,false),(44,false),(55,true)]) 80 Tryz.f45 (ai Tryz.f45) [bv n]=some ([IsB (ga n),ncQ n=false,IsB (ga n),IW (dyV n) (dyV n),IW (du n) (nv 1),IW (nv DN') (du n),IW (WM (nv DN') (du n)) (nv 1),IsW (duV n),IW (WS (du n) (nv 1)) (WI (duV n)),IsW (dsV n),pH n=false,s8 n=false,rB n=true,IW (nv 0) (nv (drN n)),IsW (WS (nv 0) (nv (drN n))),IW (nv (aW (WS (nv 0) (nv (drN n))) % pp)) (dyV n)],.tuple #[qv ⟨aW (WS (nv 0) (nv (drN n))) % pp,aj (ga n),1,rfm (aW (nv (aW (WS (nv 0) (nv (drN n))) % pp))) (aW (dyV n))⟩,.bool true]):=by kernel_rfl
theorem sG : ∀ y:Fin 256,bits .and .u8 ((y.val:Nat):Int) 127=((y.val % 128:Nat):Int)∧Int.fdiv ((y.val:Nat):Int) (2 ^ 7)=((y.val/128:Nat):Int):=by decide +kernel
theorem Eh (n:Nat) (h:n<RN):ga n=bv (n % TT):=by
 have hb:n/256 ^ 31 % 256<256:=Nat.mod_lt _ (by decide)
 have o:=(sG ⟨n/256 ^ 31 % 256,hb⟩).1
 have o2:=(il ⟨n/256 ^ 31 % 256,hb⟩).1
 simp only at o o2
 have e:bits .and .u8 (by8 n 31) 127=bits .andNot .u8 (by8 n 31) 128:=o.trans o2.symm
 rw [←kX n h]
 unfold ga dt
 rw [e]
theorem Hr {n:Nat} (h:n<RN):odQ n=if TT≤n then 1 else 0:=by
 have hb:n/256 ^ 31 % 256<256:=Nat.mod_lt _ (by decide)
 have o:=(sG ⟨n/256 ^ 31 % 256,hb⟩).2
 simp only at o
 unfold odQ
 show Int.fdiv ((n/256 ^ 31 % 256:Nat):Int) (2 ^ 7)=_
 rw [o]
 have h2:n/256 ^ 31<256:=by rw [Nat.div_lt_iff_lt_mul (by decide)];exact Nat.lt_of_lt_of_le h (by decide)
 rw [Nat.mod_eq_of_lt h2,Nat.div_div_eq_div_mul,←jc]
 have h4:RN=TT*2:=by decide
 by_cases ht:TT≤n
 ·rw [if_pos ht]
  have h1:n/TT<2:=by rw [Nat.div_lt_iff_lt_mul (by decide)];omega
  have h3:1≤n/TT:=by rw [Nat.le_div_iff_mul_le (by decide)];omega
  have:n/TT=1:=by omega
  rw [this];rfl
 ·rw [if_neg ht,Nat.div_eq_of_lt (by omega)];rfl
theorem Gl (m n:Nat) (hm:m<RN) (hn:n<RN):eqB (nl m).toArray (nl n).toArray 4=decide (m=n):=by
 by_cases h:m=n
 ·subst h
  rw [decide_eq_true rfl]
  exact List.all_eq_true.2 fun i _=>by simp
 ·rw [decide_eq_false h]
  apply Bool.eq_false_iff.2
  intro hall
  apply h
  have e:eqB (nl m).toArray (nl n).toArray 4=((lw m 0 == lw n 0) && ((lw m 1 == lw n 1) && ((lw m 2 == lw n 2) && ((lw m 3 == lw n 3) && true)))):=rfl
  rw [e] at hall
  simp only [Bool.and_eq_true,beq_iff_eq] at hall
  obtain ⟨a0,a1,a2,a3,_⟩:=hall
  have e2:nl m=nl n:=by
   show [Value.int .u64 (lw m 0),.int .u64 (lw m 1),.int .u64 (lw m 2),.int .u64 (lw m 3)] = [.int .u64 (lw n 0),.int .u64 (lw n 1),.int .u64 (lw n 2),.int .u64 (lw n 3)]
   rw [a0,a1,a2,a3]
  rw [←gx hm,←gx hn,e2]
def sxR (y:Nat):Nat:=rfm (rfs (rfm y y) 1) (rfi (rfa (rfm DN' (rfm y y)) 1))
theorem wg {y:Nat} (hy:y<RN):sxR y % pp=sxN y % pp:=by
 apply fR.1
 have l1:=bH hy hy
 have l2:rfm DN' (rfm y y)<RN:=bH cM l1
 have l3:rfa (rfm DN' (rfm y y)) 1<RN:=bn l2 (by decide)
 unfold sxR
 rw [zQ,cO (bO _ l1) (pq l3),mI _ l1,cO hy hy,uF l3,iS l2 (by decide),cO cM l1,cO hy hy,lO]
 rw [show cK DN'=DK from rfl,yG (DK*(cK y*cK y)) 1]
theorem AR {a b:Nat} (h:a % pp=b % pp):rt a=rt b:=by
 have hx:rx a=rx b:=by unfold rx;rw [Nat.pow_mod,h,←Nat.pow_mod]
 unfold rt
 rw [hx,h]
def rtN (n:Nat):Nat:=rt (sxN (n % TT))
theorem pI (n:Nat):rtN n<pp:=vW _
theorem p7 {n:Nat} (hs:rtN n*rtN n % pp=sxN (n % TT) % pp):dK n=ev (rtN n):=by
 unfold dK sqv;unfold rtN at *;rw [if_pos hs]
theorem EE {m:Nat} (h:m<pp):ev m=0↔m=0:=by
 unfold ev
 split <;> omega
theorem ti {n:Nat} (hs:rtN n*rtN n % pp=sxN (n % TT) % pp) (h:(rtN n % 2=1)↔TT≤n):rdX n=rtN n:=by
 have l:=pI n
 unfold rdX gS
 rw [p7 hs]
 by_cases ht:TT≤n
 ·have h1:=h.2 ht
  rw [decide_eq_true ht,if_pos rfl]
  unfold ev
  rw [if_pos h1]
  unfold fsb
  rw [Nat.zero_add,Nat.mod_eq_of_lt (show pp - rtN n<pp by omega),show pp - (pp - rtN n)=rtN n by omega,Nat.mod_eq_of_lt l]
 ·have h1 : ¬ rtN n % 2=1:=fun e=>ht (h.1 e)
  rw [decide_eq_false ht,if_neg Bool.false_ne_true]
  unfold ev
  rw [if_neg h1]
theorem yN {n:Nat} (hs:rtN n*rtN n % pp=sxN (n % TT) % pp) (h : ¬ ((rtN n % 2=1)↔TT≤n)) (hz : ¬ rtN n=0):rdX n=rfs 0 (rtN n) % pp:=by
 have l:=pI n
 have e:rfs 0 (rtN n) % pp=pp - rtN n:=by
  unfold rfs
  rw [qS (ri _ (by decide)),Nat.mod_eq_of_lt l,Nat.zero_add,Nat.mod_eq_of_lt (by omega)]
 rw [e]
 unfold rdX gS
 rw [p7 hs]
 by_cases ht:TT≤n
 ·have h1 : ¬ rtN n % 2=1:=fun e=>h ⟨fun _=>ht,fun _=>e⟩
  rw [decide_eq_true ht,if_pos rfl]
  unfold ev
  rw [if_neg h1]
  unfold fsb
  rw [Nat.zero_add,Nat.mod_eq_of_lt l,Nat.mod_eq_of_lt (by omega)]
 ·have h1:rtN n % 2=1:=by
   by_cases h2:rtN n % 2=1
   ·exact h2
   ·exact absurd ⟨fun e=>absurd e h2,fun e=>absurd e ht⟩ h
  rw [decide_eq_false ht,if_neg Bool.false_ne_true]
  unfold ev
  rw [if_pos h1]
def dqP (n:Nat):P4:=if bD n then ⟨rdX n,n % TT,1,rfm (rdX n) (n % TT)⟩ else noP
theorem mY (n:Nat):rdX n<RN:=by
 unfold rdX
 split
 ·exact mN _ _
 ·exact qn _
theorem Gh:noP.ok:=⟨by decide,by decide,by decide,by decide⟩
theorem mG (n:Nat):(dqP n).ok:=by
 unfold dqP
 split
 ·exact ⟨mY n,dE n,(show (1:Nat)<RN by decide),bH (mY n) (dE n)⟩
 ·exact Gh
theorem oa (p:P4) (b:Bool):flat (.tuple #[qv p,.bool b])=true:=rfl
theorem Fa (r:Nat) (t:Prop) [Decidable t]:(!(((r % 2:Nat):Int) == (if t then 1 else 0))) = !decide ((r % 2=1)↔t):=by
 generalize hx:r % 2=x
 have hx:x=0∨x=1:=by omega
 rcases hx with rfl | rfl <;> by_cases ht:t <;> simp [ht]
set_option maxHeartbeats 1000000 in
theorem vk (n:Nat) (h:n<RN) (w:World):Calls Tryz.prog 45 #[bv n] w fun e w'=>e = .returned (.tuple #[qv (dqP n),.bool (bD n)])∧Below w.heap.size w w':=by
 have hl:=Eh n h
 have ly:=dE n
 have fin : ∀ {X:Cx} (hX:X.Ok Tryz.prog) (hg:X.gl = []) {ps:List Prop} {v:Value} (run:sfun Tryz.prog X 80 Tryz.f45 (ai Tryz.f45) [bv n]=some (ps,v)) (hp : ∀ p ∈ ps,p) (hv:v = .tuple #[qv (dqP n),.bool (bD n)]),Calls Tryz.prog 45 #[bv n] w fun e w'=>e = .returned (.tuple #[qv (dqP n),.bool (bD n)])∧Below w.heap.size w w':=by
  intro X hX hg ps v run hp hv
  subst hv
  exact aA hX mixed Tryz.func45 (by kernel_rfl) run hp (by simp [aE]) (.inl (oa _ _)) w hg
 have bad:bD n=false→(Value.tuple #[qv noP,.bool false]) = .tuple #[qv (dqP n),.bool (bD n)]:=fun hk=>by
  unfold dqP;rw [hk,if_neg Bool.false_ne_true]
 have IL:IsB (ga n):=by rw [hl];exact aG _
 have ebn:aj (ga n)=n % TT:=by rw [hl,ar ly]
 have ey:dyV n=nv (n % TT):=by unfold dyV;rw [ebn]
 have lyy:=bH ly ly
 have eyy:du n=nv (rfm (n % TT) (n % TT)):=by unfold du;rw [ey,vWM ly ly]
 have lD:rfm DN' (rfm (n % TT) (n % TT))<RN:=bH cM lyy
 have lU:rfa (rfm DN' (rfm (n % TT) (n % TT))) 1<RN:=bn lD (by decide)
 have eu:duV n=nv (rfa (rfm DN' (rfm (n % TT) (n % TT))) 1):=by unfold duV;rw [eyy,vWM cM lyy,vWA lD (by decide)]
 have lI:=pq lU
 have lS:rfs (rfm (n % TT) (n % TT)) 1<RN:=bO _ lyy
 have es:dsV n=nv (sxR (n % TT)):=by unfold dsV;rw [eyy,eu,vWS lyy (by decide),vWI lU,vWM lS lI];rfl
 have lsx:sxR (n % TT)<RN:=bH lS lI
 have ew:aW (dsV n)=sxR (n % TT):=by rw [es,a7 lsx]
 have er:drN n=rtN n:=by unfold drN rtN;rw [ew];exact AR (wg ly)
 have lr:rtN n<RN:=Nat.lt_trans (pI n) jz
 have i1:IW (dyV n) (dyV n):=by rw [ey];exact iw ly ly
 have i2:IW (du n) (nv 1):=by rw [eyy];exact iw lyy (by decide)
 have i3:IW (nv DN') (du n):=by rw [eyy];exact iw cM lyy
 have i4:IW (WM (nv DN') (du n)) (nv 1):=by rw [eyy,vWM cM lyy];exact iw lD (by decide)
 have i5:IsW (duV n):=by rw [eu];exact ic lU
 have i6:IW (WS (du n) (nv 1)) (WI (duV n)):=by rw [eyy,eu,vWS lyy (by decide),vWI lU];exact iw lS lI
 have i7:IsW (dsV n):=by rw [es];exact ic lsx
 have i8:IW (nv (drN n)) (dyV n):=by rw [er,ey];exact iw lr ly
 have hok:=my n
 have hnok:pH n = !decide (rtN n*rtN n % pp=sxN (n % TT) % pp):=by unfold pH;rw [er,ew,wg ly]
 have hzer:s8 n=decide (rtN n=0):=by unfold s8;rw [er];exact Gl _ 0 lr (by decide)
 have hodd:=Hr h
 have hneq:rB n = !decide ((rtN n % 2=1)↔TT≤n):=by
  unfold rB
  rw [er,wU,hodd]
  exact Fa (rtN n) (TT≤n)
 by_cases hc:n % TT<pp
 ·have c1:ncQ n=false:=by unfold ncQ;rw [ebn];simp [hc]
  by_cases hs:rtN n*rtN n % pp=sxN (n % TT) % pp
  ·have e1:pH n=false:=by rw [hnok];simp [hs]
   have hz0:dK n=0↔rtN n=0:=by rw [p7 hs];exact EE (pI n)
   by_cases hz:rtN n=0
   ·have z1:s8 n=true:=by rw [hzer];simp [hz]
    by_cases ht:TT≤n
    ·have o1:(odQ n == 1)=true:=by rw [hodd,if_pos ht];rfl
     have hk:bD n=false:=by
      cases hq:bD n
      ·rfl
      ·exact absurd ⟨ht,hz0.2 hz⟩ (hok.1 hq).2.2
     exact fin (Cx.tell_ok nD _) rfl (Mc n) (al IL (al c1 (al IL (al i1 (al i2 (al i3 (al i4 (al i5 (al i6 (al i7 (al e1 (al z1 (al o1 al0))))))))))))) (bad hk)
    ·have o1:(odQ n == 1)=false:=by rw [hodd,if_neg ht];rfl
     have hm:(rtN n % 2=1)↔TT≤n:=⟨fun e=>by rw [hz] at e;exact absurd e (by decide),fun e=>absurd e ht⟩
     have n1:rB n=false:=by rw [hneq];simp [hm]
     have hk:bD n=true:=hok.2 ⟨hc,gQ.2 hs,fun e=>ht e.1⟩
     refine fin (Cx.tell_ok nD _) rfl (KL n) (al IL (al c1 (al IL (al i1 (al i2 (al i3 (al i4 (al i5 (al i6 (al i7 (al e1 (al z1 (al o1 (al n1 (al i8 al0))))))))))))))) ?_
     unfold dqP
     rw [hk,if_pos rfl,ey,er,ebn,a7 lr,a7 ly,ti hs hm]
   ·have z1:s8 n=false:=by rw [hzer];simp [hz]
    have hk:bD n=true:=hok.2 ⟨hc,gQ.2 hs,fun e=>hz (hz0.1 e.2)⟩
    by_cases hm:(rtN n % 2=1)↔TT≤n
    ·have n1:rB n=false:=by rw [hneq];simp [hm]
     refine fin (Cx.tell_ok nD _) rfl (J8 n) (al IL (al c1 (al IL (al i1 (al i2 (al i3 (al i4 (al i5 (al i6 (al i7 (al e1 (al z1 (al n1 (al i8 al0)))))))))))))) ?_
     unfold dqP
     rw [hk,if_pos rfl,ey,er,ebn,a7 lr,a7 ly,ti hs hm]
    ·have n1:rB n=true:=by rw [hneq,decide_eq_false hm];rfl
     have lm:rfs 0 (rtN n)<RN:=bO _ (by decide)
     have j1:IW (nv 0) (nv (drN n)):=by rw [er];exact iw (by decide) lr
     have j2:IsW (WS (nv 0) (nv (drN n))):=by rw [er,vWS (by decide) lr];exact ic lm
     have ex:aW (WS (nv 0) (nv (drN n))) % pp=rdX n:=by rw [er,vWS (by decide) lr,a7 lm,yN hs hm hz]
     have j3:IW (nv (aW (WS (nv 0) (nv (drN n))) % pp)) (dyV n):=by rw [ex,ey];exact iw (mY n) ly
     refine fin (Cx.tell_ok nD _) rfl (Kl n) (al IL (al c1 (al IL (al i1 (al i2 (al i3 (al i4 (al i5 (al i6 (al i7 (al e1 (al z1 (al n1 (al j1 (al j2 (al j3 al0)))))))))))))))) ?_
     unfold dqP
     rw [hk,if_pos rfl,ey,ex,ebn,a7 (mY n),a7 ly]
  ·have e1:pH n=true:=by rw [hnok,decide_eq_false hs];rfl
   have hk:bD n=false:=by
    cases hq:bD n
    ·rfl
    ·exact absurd (gQ.1 (hok.1 hq).2.1) hs
   exact fin (Cx.tell_ok nD _) rfl (Mk n) (al IL (al c1 (al IL (al i1 (al i2 (al i3 (al i4 (al i5 (al i6 (al i7 (al e1 al0))))))))))) (bad hk)
 ·have c1:ncQ n=true:=by unfold ncQ;rw [ebn];simp [hc]
  have hk:bD n=false:=by
   cases hq:bD n
   ·rfl
   ·exact absurd (hok.1 hq).1 hc
  exact fin (Cx.tell_ok nD _) rfl (Lh n) (al IL (al c1 al0)) (bad hk)
def gRdec:List Value→Option (List Prop × Value)
 | [A]=>some ([IsB A],.tuple #[qv (dqP (aj A)),.bool (bD (aj A))])
 | _=>none
theorem BL {X:Cx} (hX:X.Ok Tryz.prog):(X.pure 45 gRdec).Ok Tryz.prog:=by
 refine aD hX Tryz.func45 (by kernel_rfl) (by kernel_rfl) ?_
 intro args ps v ha hg hp
 unfold gRdec at hg
 split at hg
 ·rename_i A
  simp only [qG,qH] at hg
  obtain ⟨rfl,rfl⟩:=hg
  have hA:=hp _ (List.mem_singleton.2 rfl)
  refine ⟨.inl (oa _ _),fun w => ?_⟩
  have h:=vk (aj A) (aS hA) w
  rw [← (show A=bv (aj A) from hA)] at h
  exact h
 ·simp at hg
def H3:Cx:=H2.pure 45 gRdec
theorem Ix (p:PT):Rep (cP (dqP (enc p))) p:=by
 have h:=py p
 have hk:=jX p
 have e:cP (dqP (enc p))=cP (rdP (enc p)):=by
  unfold dqP rdP
  rw [hk,if_pos rfl,if_pos rfl,wa]
  unfold cP atE
  simp only
  rw [cO (mY _) (dE _),lO]
 rw [e];exact h
end Go.Proofs.YtajehiidpecknaaGreatDoor
namespace Go.Proofs.YtajehiidpecknaaGreatDoor
open Go Go.RowKit
theorem JD:GY<RN:=by decide
structure Lt where
 D:Nat→P4
 K:Nat→Bool
 S:P4→P4→P4
 M:P4→P4
 O:Nat→P4→P4
 E:P4→Nat
def cDe (L:Lt):List Value→Option (List Prop × Value)
 | [A]=>some ([IsB A],.tuple #[qv (L.D (aj A)),.bool (L.K (aj A))])
 | _=>none
def cMi (L:Lt):List Value→Option (List Prop × Value)
 | [A]=>some ([IsQ A],qv (L.M (q4 A)))
 | _=>none
def cOf (L:Lt):List Value→Option (List Prop × Value)
 | [A,B]=>some ([IsB A∧IsQ B],qv (L.O (aj A) (q4 B)))
 | _=>none
def cEn (L:Lt):List Value→Option (List Prop × Value)
 | [A]=>some ([IsQ A],bv (L.E (q4 A)))
 | _=>none
def HL (L:Lt):Cx:=((((Cx.none.pure 48 (gRS L.S)).pure 50 (cMi L)).pure 47 (cEn L)).pure 49 (cOf L)).pure 45 (cDe L)
def L0:Lt:=⟨dqP,bD,aT,Fu,tA,wqN⟩
theorem Lg:cDe L0=gRdec:=rfl
theorem K1:cMi L0=gRmir:=rfl
theorem Lm:cOf L0=vT:=rfl
theorem Mt:cEn L0=xi:=rfl
theorem cS0:gRS L0.S=gRsum:=rfl
theorem FH:(HL L0).Ok Tryz.prog:=by
 unfold HL
 rw [Lg,K1,Lm,Mt,cS0]
 exact BL (rC (tD (rM (me Cx.none_ok))))
theorem CO (L:Lt)  : sfun Tryz.prog (HL L) 200 Tryz.f46 (ai Tryz.f46) []=some ([],bv GY):=by kernel_rfl
theorem Dt   (w:World):Calls Tryz.prog 46 #[] w fun e w'=>e = .returned (bv GY)∧Below w.heap.size w w':=by
 exact aA FH mixed Tryz.func46 (by kernel_rfl) (CO L0) (al0) rfl (.inl (aE _)) w
theorem BS {X:Cx} (hX:X.Ok Tryz.prog):(X.pure 46 Ip).Ok Tryz.prog:=by
 refine aD hX Tryz.func46 (by kernel_rfl) (by kernel_rfl) ?_
 intro args ps v ha hg hp
 unfold Ip at hg
 split at hg
 ·simp only [qG,qH] at hg
  obtain ⟨rfl,rfl⟩:=hg
  exact ⟨.inl (aE _),fun w=>Dt w⟩
 ·simp at hg
theorem L0D:L0.D=dqP:=rfl
theorem vG (n:Nat) {p:P4} (h:p.ok):(tA n p).ok:=wW h n 256
theorem xZ {n a:Nat} (hn:n<RN) (ha:a<RN) (hka:bD a=true):wqN (tA n (dqP a))=wrN (dx n (rdP a)):=by
 obtain ⟨P,rfl,hP⟩:=tj ha hka
 rw [GJ (vG n (mG _)) (ya (mG _) (Ix P) n hn)]
 exact (mK (fS hP n hn)).symm
theorem dq0 {a:Nat} (ha:a<RN):L0.D (aj (bv a))=dqP a:=by rw [L0D,ar ha]
def HL2 (L:Lt):Cx:=(HL L).pure 46 Ip
theorem GP:(HL2 L0).Ok Tryz.prog:=BS FH
theorem ED (L:Lt) (n:Nat):sfun Tryz.prog (HL2 L) 200 Tryz.f28 (ai Tryz.f28) [bv n]=some ([IsB (bv GY),IsB (bv n)∧IsQ (qv (L.D (aj (bv GY)))),IsQ (qv (L.O (aj (bv n)) (q4 (qv (L.D (aj (bv GY)))))))],bv (L.E (q4 (qv (L.O (aj (bv n)) (q4 (qv (L.D (aj (bv GY)))))))))):=by kernel_rfl
theorem xA {n:Nat} (hn:n<RN):wqN (tA n (dqP GY))=rX n:=by
 have h:=xZ (a:=enc BP) hn (vv BP) (jX BP)
 have h2:=mK (fS (py BP) n hn)
 rw [IK] at h h2
 rw [h,h2,qQ n hn]
theorem Db (n:Nat) (hn:n<RN) (w:World):Calls Tryz.prog 28 #[bv n] w fun e w'=>e = .returned (bv (rX n))∧Below w.heap.size w w':=by
 have r:=ED L0 n
 rw [dq0 JD,nE (mG GY),ar hn] at r
 have l:(L0.O n (dqP GY)).ok:=vG n (mG GY)
 rw [nE l] at r
 have e:L0.E (L0.O n (dqP GY))=rX n:=xA hn
 rw [e] at r
 exact aA GP mixed Tryz.func28 (by kernel_rfl) r (al (aG _) (al ⟨aG _,jS (mG GY)⟩ (al (jS l) al0))) (by simp [aE]) (.inl (aE _)) w
def cMl (f g:Nat→Nat→Nat) (e:Nat→Int):List Value→Option (List Prop × Value)
 | [A,B]=>some ([IsB A∧IsB B],.tuple #[bv (f (aj A) (aj B)),.int .i64 (e (aj B))])
 | _=>none
def HM (f g:Nat→Nat→Nat) (e:Nat→Int):Cx:=Cx.none.pure 30 (cMl f g e)
def cCl (f:Nat→Nat) (e:Nat→Int):List Value→Option (List Prop × Value)
 | [A]=>some ([IsB A],.tuple #[bv (f (aj A)),.int .i64 (e (aj A))])
 | _=>none
def HN (f:Nat→Nat) (e:Nat→Int):Cx:=(Cx.none.pure 38 (cCl f e)).pure 65 gZer
end Go.Proofs.YtajehiidpecknaaGreatDoor
