/- The curve's reference: Decode as a dy. -/
import Derived.Test.YtajehiidpecknaaGreatDoorPoiTA
import Derived.Test.YtajehiidpecknaaGreatDoorPoiJ
set_option linter.unusedSimpArgs false
set_option linter.unusedVariables false
namespace Go.Proofs.YtajehiidpecknaaGreatDoor
open Go Go.RowKit
def fN (n:Nat):Value := .agg ((bl n).take 31 ++ [Value.int .u8 (bits .and .u8 (by8 n 31) 127)]).toArray
def odQ (n:Nat):Int:=Int.fdiv (by8 n 31) (2 ^ 7)
def dyV (n:Nat):Value:=nv (aj (fN n))
def dA (n:Nat):Value:=WM (dyV n) (dyV n)
def duV (n:Nat):Value:=WA (WM (nv DN') (dA n)) (nv 1)
def dsV (n:Nat):Value:=WM (WS (dA n) (nv 1)) (WI (duV n))
def drN (n:Nat):Nat:=rt (aX (dsV n))
def rG (n:Nat):Bool := !decide (drN n*drN n % pp=aX (dsV n) % pp)
def ncQ (n:Nat):Bool := !decide (aj (fN n)<pp)
def uh (n:Nat):Bool:=eqB (nl (drN n)).toArray (nl 0).toArray 4
def tQ (n:Nat):Bool := !(FU (drN n) == odQ n)
theorem Mq (n:Nat):sfun Tryz.prog (H2.tell [(18,true)]) 80 Tryz.f45 (ai Tryz.f45) [bv n]=some ([IsB (fN n),ncQ n=true],.tuple #[qv noP,.bool false]):=by kernel_rfl
theorem M6 (n:Nat):sfun Tryz.prog (H2.tell [(18,false),(40,true)]) 80 Tryz.f45 (ai Tryz.f45) [bv n]=some ([IsB (fN n),ncQ n=false,IsB (fN n),IW (dyV n) (dyV n),IW (dA n) (nv 1),IW (nv DN') (dA n),IW (WM (nv DN') (dA n)) (nv 1),IsW (duV n),IW (WS (dA n) (nv 1)) (WI (duV n)),IsW (dsV n),rG n=true],.tuple #[qv noP,.bool false]):=by kernel_rfl
theorem Mi (n:Nat):sfun Tryz.prog (H2.tell [(18,false),(40,false),(44,true),(47,true)]) 80 Tryz.f45 (ai Tryz.f45) [bv n]=some ([IsB (fN n),ncQ n=false,IsB (fN n),IW (dyV n) (dyV n),IW (dA n) (nv 1),IW (nv DN') (dA n),IW (WM (nv DN') (dA n)) (nv 1),IsW (duV n),IW (WS (dA n) (nv 1)) (WI (duV n)),IsW (dsV n),rG n=false,uh n=true,(odQ n == 1)=true],.tuple #[qv noP,.bool false]):=by kernel_rfl
theorem Lq (n:Nat):sfun Tryz.prog (H2.tell [(18,false),(40,false),(44,true),(47,false),(55,false)]) 80 Tryz.f45 (ai Tryz.f45) [bv n]=some ([IsB (fN n),ncQ n=false,IsB (fN n),IW (dyV n) (dyV n),IW (dA n) (nv 1),IW (nv DN') (dA n),IW (WM (nv DN') (dA n)) (nv 1),IsW (duV n),IW (WS (dA n) (nv 1)) (WI (duV n)),IsW (dsV n),rG n=false,uh n=true,(odQ n == 1)=false,tQ n=false,IW (nv (drN n)) (dyV n)],.tuple #[qv ⟨drN n,aj (fN n),1,rfm (aX (nv (drN n))) (aX (dyV n))⟩,.bool true]):=by kernel_rfl
theorem Mc (n:Nat):sfun Tryz.prog (H2.tell [(18,false),(40,false),(44,false),(55,false)]) 80 Tryz.f45 (ai Tryz.f45) [bv n]=some ([IsB (fN n),ncQ n=false,IsB (fN n),IW (dyV n) (dyV n),IW (dA n) (nv 1),IW (nv DN') (dA n),IW (WM (nv DN') (dA n)) (nv 1),IsW (duV n),IW (WS (dA n) (nv 1)) (WI (duV n)),IsW (dsV n),rG n=false,uh n=false,tQ n=false,IW (nv (drN n)) (dyV n)],.tuple #[qv ⟨drN n,aj (fN n),1,rfm (aX (nv (drN n))) (aX (dyV n))⟩,.bool true]):=by kernel_rfl
theorem Kj (n:Nat):sfun Tryz.prog (H2.tell [(18,false),(40,false),(44,false),(55,true)]) 80 Tryz.f45 (ai Tryz.f45) [bv n]=some ([IsB (fN n),ncQ n=false,IsB (fN n),IW (dyV n) (dyV n),IW (dA n) (nv 1),IW (nv DN') (dA n),IW (WM (nv DN') (dA n)) (nv 1),IsW (duV n),IW (WS (dA n) (nv 1)) (WI (duV n)),IsW (dsV n),rG n=false,uh n=false,tQ n=true,IW (nv 0) (nv (drN n)),IsW (WS (nv 0) (nv (drN n))),IW (nv (aX (WS (nv 0) (nv (drN n))) % pp)) (dyV n)],.tuple #[qv ⟨aX (WS (nv 0) (nv (drN n))) % pp,aj (fN n),1,rfm (aX (nv (aX (WS (nv 0) (nv (drN n))) % pp))) (aX (dyV n))⟩,.bool true]):=by kernel_rfl
theorem tY : ∀ y:Fin 256,bits .and .u8 ((y.val:Nat):Int) 127=((y.val % 128:Nat):Int)∧Int.fdiv ((y.val:Nat):Int) (2 ^ 7)=((y.val/128:Nat):Int):=by decide +kernel
theorem EP (n:Nat) (h:n<RN):fN n=bv (n % TT):=by
 have hb:n/256 ^ 31 % 256<256:=Nat.mod_lt _ (by decide)
 have o:=(tY ⟨n/256 ^ 31 % 256,hb⟩).1
 have o2:=(ix ⟨n/256 ^ 31 % 256,hb⟩).1
 simp only at o o2
 have e:bits .and .u8 (by8 n 31) 127=bits .andNot .u8 (by8 n 31) 128:=o.trans o2.symm
 rw [←l9 n h]
 unfold fN dz
 rw [e]
theorem Ig {n:Nat} (h:n<RN):odQ n=if TT≤n then 1 else 0:=by
 have hb:n/256 ^ 31 % 256<256:=Nat.mod_lt _ (by decide)
 have o:=(tY ⟨n/256 ^ 31 % 256,hb⟩).2
 simp only at o
 unfold odQ
 show Int.fdiv ((n/256 ^ 31 % 256:Nat):Int) (2 ^ 7)=_
 rw [o]
 have h2:n/256 ^ 31<256:=by rw [Nat.div_lt_iff_lt_mul (by decide)];exact Nat.lt_of_lt_of_le h (by decide)
 rw [Nat.mod_eq_of_lt h2,Nat.div_div_eq_div_mul,←jm]
 have h4:RN=TT*2:=by decide
 by_cases ht:TT≤n
 ·rw [if_pos ht]
  have h1:n/TT<2:=by rw [Nat.div_lt_iff_lt_mul (by decide)];omega
  have h3:1≤n/TT:=by rw [Nat.le_div_iff_mul_le (by decide)];omega
  have:n/TT=1:=by omega
  rw [this];rfl
 ·rw [if_neg ht,Nat.div_eq_of_lt (by omega)];rfl
theorem GZ (m n:Nat) (hm:m<RN) (hn:n<RN):eqB (nl m).toArray (nl n).toArray 4=decide (m=n):=by
 by_cases h:m=n
 ·subst h
  rw [decide_eq_true rfl]
  exact List.all_eq_true.2 fun i _=>by simp
 ·rw [decide_eq_false h]
  apply Bool.eq_false_iff.2
  intro hall
  apply h
  have e:eqB (nl m).toArray (nl n).toArray 4=((lw m 0 == lw n 0) && ((lw m 1 == lw n 1) && ((lw m 2 == lw n 2) && ((lw m 3 == lw n 3) && true)))):=rfl
  rw [e] at hall
  simp only [Bool.and_eq_true,beq_iff_eq] at hall
  obtain ⟨a0,a1,a2,a3,_⟩:=hall
  have e2:nl m=nl n:=by
   show [Value.int .u64 (lw m 0),.int .u64 (lw m 1),.int .u64 (lw m 2),.int .u64 (lw m 3)] = [.int .u64 (lw n 0),.int .u64 (lw n 1),.int .u64 (lw n 2),.int .u64 (lw n 3)]
   rw [a0,a1,a2,a3]
  rw [←gL hm,←gL hn,e2]
def sxR (y:Nat):Nat:=rfm (rfs (rfm y y) 1) (rfi (rfa (rfm DN' (rfm y y)) 1))
theorem xt {y:Nat} (hy:y<RN):sxR y % pp=sxN y % pp:=by
 apply fl.1
 have l1:=bJ hy hy
 have l2:rfm DN' (rfm y y)<RN:=bJ cQ l1
 have l3:rfa (rfm DN' (rfm y y)) 1<RN:=bo l2 (by decide)
 unfold sxR
 rw [zJ,cW (bR _ l1) (rq l3),mD _ l1,cW hy hy,uI l3,jw l2 (by decide),cW cQ l1,cW hy hy,mK]
 rw [show cK DN'=DK from rfl,yc (DK*(cK y*cK y)) 1]
theorem Aj {a b:Nat} (h:a % pp=b % pp):rt a=rt b:=by
 have hx:rx a=rx b:=by unfold rx;rw [Nat.pow_mod,h,←Nat.pow_mod]
 unfold rt
 rw [hx,h]
def rtN (n:Nat):Nat:=rt (sxN (n % TT))
theorem rD (n:Nat):rtN n<pp:=xL _
theorem qx {n:Nat} (hs:rtN n*rtN n % pp=sxN (n % TT) % pp):dU n=ev (rtN n):=by
 unfold dU sqv;unfold rtN at *;rw [if_pos hs]
theorem ES {m:Nat} (h:m<pp):ev m=0↔m=0:=by
 unfold ev
 split <;> omega
theorem tW {n:Nat} (hs:rtN n*rtN n % pp=sxN (n % TT) % pp) (h:(rtN n % 2=1)↔TT≤n):rdX n=rtN n:=by
 have l:=rD n
 unfold rdX iq
 rw [qx hs]
 by_cases ht:TT≤n
 ·have h1:=h.2 ht
  rw [decide_eq_true ht,if_pos rfl]
  unfold ev
  rw [if_pos h1]
  unfold fsb
  rw [Nat.zero_add,Nat.mod_eq_of_lt (show pp - rtN n<pp by omega),show pp - (pp - rtN n)=rtN n by omega,Nat.mod_eq_of_lt l]
 ·have h1 : ¬ rtN n % 2=1:=fun e=>ht (h.1 e)
  rw [decide_eq_false ht,if_neg Bool.false_ne_true]
  unfold ev
  rw [if_neg h1]
theorem yh {n:Nat} (hs:rtN n*rtN n % pp=sxN (n % TT) % pp) (h : ¬ ((rtN n % 2=1)↔TT≤n)) (hz : ¬ rtN n=0):rdX n=rfs 0 (rtN n) % pp:=by
 have l:=rD n
 have e:rfs 0 (rtN n) % pp=pp - rtN n:=by
  unfold rfs
  rw [qW (rC _ (by decide)),Nat.mod_eq_of_lt l,Nat.zero_add,Nat.mod_eq_of_lt (by omega)]
 rw [e]
 unfold rdX iq
 rw [qx hs]
 by_cases ht:TT≤n
 ·have h1 : ¬ rtN n % 2=1:=fun e=>h ⟨fun _=>ht,fun _=>e⟩
  rw [decide_eq_true ht,if_pos rfl]
  unfold ev
  rw [if_neg h1]
  unfold fsb
  rw [Nat.zero_add,Nat.mod_eq_of_lt l,Nat.mod_eq_of_lt (by omega)]
 ·have h1:rtN n % 2=1:=by
   by_cases h2:rtN n % 2=1
   ·exact h2
   ·exact absurd ⟨fun e=>absurd e h2,fun e=>absurd e ht⟩ h
  rw [decide_eq_false ht,if_neg Bool.false_ne_true]
  unfold ev
  rw [if_pos h1]
def dqP (n:Nat):P4:=if bD n then ⟨rdX n,n % TT,1,rfm (rdX n) (n % TT)⟩ else noP
theorem nF (n:Nat):rdX n<RN:=by
 unfold rdX
 split
 ·exact mO _ _
 ·exact rB _
theorem Ju:noP.ok:=⟨by decide,by decide,by decide,by decide⟩
theorem m9 (n:Nat):(dqP n).ok:=by
 unfold dqP
 split
 ·exact ⟨nF n,dM n,(show (1:Nat)<RN by decide),bJ (nF n) (dM n)⟩
 ·exact Ju
theorem pK (p:P4) (b:Bool):flat (.tuple #[qv p,.bool b])=true:=rfl
theorem Ej (r:Nat) (t:Prop) [Decidable t]:(!(((r % 2:Nat):Int) == (if t then 1 else 0))) = !decide ((r % 2=1)↔t):=by
 generalize hx:r % 2=x
 have hx:x=0∨x=1:=by omega
 rcases hx with rfl | rfl <;> by_cases ht:t <;> simp [ht]
set_option maxHeartbeats 1000000 in
theorem vL (n:Nat) (h:n<RN) (w:World):Calls Tryz.prog 45 #[bv n] w fun e w'=>e = .returned (.tuple #[qv (dqP n),.bool (bD n)])∧Below w.heap.size w w':=by
 have hl:=EP n h
 have ly:=dM n
 have fin : ∀ {X:Cx} (hX:X.Ok Tryz.prog) (hg:X.gl = []) {ps:List Prop} {v:Value} (run:sfun Tryz.prog X 80 Tryz.f45 (ai Tryz.f45) [bv n]=some (ps,v)) (hp : ∀ p ∈ ps,p) (hv:v = .tuple #[qv (dqP n),.bool (bD n)]),Calls Tryz.prog 45 #[bv n] w fun e w'=>e = .returned (.tuple #[qv (dqP n),.bool (bD n)])∧Below w.heap.size w w':=by
  intro X hX hg ps v run hp hv
  subst hv
  exact aA hX mixed Tryz.func45 (by kernel_rfl) run hp (by simp [aE]) (.inl (pK _ _)) w hg
 have bad:bD n=false→(Value.tuple #[qv noP,.bool false]) = .tuple #[qv (dqP n),.bool (bD n)]:=fun hk=>by
  unfold dqP;rw [hk,if_neg Bool.false_ne_true]
 have IL:IsB (fN n):=by rw [hl];exact aG _
 have ebn:aj (fN n)=n % TT:=by rw [hl,ar ly]
 have ey:dyV n=nv (n % TT):=by unfold dyV;rw [ebn]
 have lyy:=bJ ly ly
 have eyy:dA n=nv (rfm (n % TT) (n % TT)):=by unfold dA;rw [ey,vWM ly ly]
 have lD:rfm DN' (rfm (n % TT) (n % TT))<RN:=bJ cQ lyy
 have lU:rfa (rfm DN' (rfm (n % TT) (n % TT))) 1<RN:=bo lD (by decide)
 have eu:duV n=nv (rfa (rfm DN' (rfm (n % TT) (n % TT))) 1):=by unfold duV;rw [eyy,vWM cQ lyy,vWA lD (by decide)]
 have lI:=rq lU
 have lS:rfs (rfm (n % TT) (n % TT)) 1<RN:=bR _ lyy
 have es:dsV n=nv (sxR (n % TT)):=by unfold dsV;rw [eyy,eu,vWS lyy (by decide),vWI lU,vWM lS lI];rfl
 have lsx:sxR (n % TT)<RN:=bJ lS lI
 have ew:aX (dsV n)=sxR (n % TT):=by rw [es,a8 lsx]
 have er:drN n=rtN n:=by unfold drN rtN;rw [ew];exact Aj (xt ly)
 have lr:rtN n<RN:=Nat.lt_trans (rD n) jT
 have i1:IW (dyV n) (dyV n):=by rw [ey];exact iw ly ly
 have i2:IW (dA n) (nv 1):=by rw [eyy];exact iw lyy (by decide)
 have i3:IW (nv DN') (dA n):=by rw [eyy];exact iw cQ lyy
 have i4:IW (WM (nv DN') (dA n)) (nv 1):=by rw [eyy,vWM cQ lyy];exact iw lD (by decide)
 have i5:IsW (duV n):=by rw [eu];exact ic lU
 have i6:IW (WS (dA n) (nv 1)) (WI (duV n)):=by rw [eyy,eu,vWS lyy (by decide),vWI lU];exact iw lS lI
 have i7:IsW (dsV n):=by rw [es];exact ic lsx
 have i8:IW (nv (drN n)) (dyV n):=by rw [er,ey];exact iw lr ly
 have hok:=mW n
 have hnok:rG n = !decide (rtN n*rtN n % pp=sxN (n % TT) % pp):=by unfold rG;rw [er,ew,xt ly]
 have hzer:uh n=decide (rtN n=0):=by unfold uh;rw [er];exact GZ _ 0 lr (by decide)
 have hodd:=Ig h
 have hneq:tQ n = !decide ((rtN n % 2=1)↔TT≤n):=by
  unfold tQ
  rw [er,xI,hodd]
  exact Ej (rtN n) (TT≤n)
 by_cases hc:n % TT<pp
 ·have c1:ncQ n=false:=by unfold ncQ;rw [ebn];simp [hc]
  by_cases hs:rtN n*rtN n % pp=sxN (n % TT) % pp
  ·have e1:rG n=false:=by rw [hnok];simp [hs]
   have hz0:dU n=0↔rtN n=0:=by rw [qx hs];exact ES (rD n)
   by_cases hz:rtN n=0
   ·have z1:uh n=true:=by rw [hzer];simp [hz]
    by_cases ht:TT≤n
    ·have o1:(odQ n == 1)=true:=by rw [hodd,if_pos ht];rfl
     have hk:bD n=false:=by
      cases hq:bD n
      ·rfl
      ·exact absurd ⟨ht,hz0.2 hz⟩ (hok.1 hq).2.2
     exact fin (Cx.tell_ok pz _) rfl (Mi n) (al IL (al c1 (al IL (al i1 (al i2 (al i3 (al i4 (al i5 (al i6 (al i7 (al e1 (al z1 (al o1 al0))))))))))))) (bad hk)
    ·have o1:(odQ n == 1)=false:=by rw [hodd,if_neg ht];rfl
     have hm:(rtN n % 2=1)↔TT≤n:=⟨fun e=>by rw [hz] at e;exact absurd e (by decide),fun e=>absurd e ht⟩
     have n1:tQ n=false:=by rw [hneq];simp [hm]
     have hk:bD n=true:=hok.2 ⟨hc,il.2 hs,fun e=>ht e.1⟩
     refine fin (Cx.tell_ok pz _) rfl (Lq n) (al IL (al c1 (al IL (al i1 (al i2 (al i3 (al i4 (al i5 (al i6 (al i7 (al e1 (al z1 (al o1 (al n1 (al i8 al0))))))))))))))) ?_
     unfold dqP
     rw [hk,if_pos rfl,ey,er,ebn,a8 lr,a8 ly,tW hs hm]
   ·have z1:uh n=false:=by rw [hzer];simp [hz]
    have hk:bD n=true:=hok.2 ⟨hc,il.2 hs,fun e=>hz (hz0.1 e.2)⟩
    by_cases hm:(rtN n % 2=1)↔TT≤n
    ·have n1:tQ n=false:=by rw [hneq];simp [hm]
     refine fin (Cx.tell_ok pz _) rfl (Mc n) (al IL (al c1 (al IL (al i1 (al i2 (al i3 (al i4 (al i5 (al i6 (al i7 (al e1 (al z1 (al n1 (al i8 al0)))))))))))))) ?_
     unfold dqP
     rw [hk,if_pos rfl,ey,er,ebn,a8 lr,a8 ly,tW hs hm]
    ·have n1:tQ n=true:=by rw [hneq,decide_eq_false hm];rfl
     have lm:rfs 0 (rtN n)<RN:=bR _ (by decide)
     have j1:IW (nv 0) (nv (drN n)):=by rw [er];exact iw (by decide) lr
     have j2:IsW (WS (nv 0) (nv (drN n))):=by rw [er,vWS (by decide) lr];exact ic lm
     have ex:aX (WS (nv 0) (nv (drN n))) % pp=rdX n:=by rw [er,vWS (by decide) lr,a8 lm,yh hs hm hz]
     have j3:IW (nv (aX (WS (nv 0) (nv (drN n))) % pp)) (dyV n):=by rw [ex,ey];exact iw (nF n) ly
     refine fin (Cx.tell_ok pz _) rfl (Kj n) (al IL (al c1 (al IL (al i1 (al i2 (al i3 (al i4 (al i5 (al i6 (al i7 (al e1 (al z1 (al n1 (al j1 (al j2 (al j3 al0)))))))))))))))) ?_
     unfold dqP
     rw [hk,if_pos rfl,ey,ex,ebn,a8 (nF n),a8 ly]
  ·have e1:rG n=true:=by rw [hnok,decide_eq_false hs];rfl
   have hk:bD n=false:=by
    cases hq:bD n
    ·rfl
    ·exact absurd (il.1 (hok.1 hq).2.1) hs
   exact fin (Cx.tell_ok pz _) rfl (M6 n) (al IL (al c1 (al IL (al i1 (al i2 (al i3 (al i4 (al i5 (al i6 (al i7 (al e1 al0))))))))))) (bad hk)
 ·have c1:ncQ n=true:=by unfold ncQ;rw [ebn];simp [hc]
  have hk:bD n=false:=by
   cases hq:bD n
   ·rfl
   ·exact absurd (hok.1 hq).1 hc
  exact fin (Cx.tell_ok pz _) rfl (Mq n) (al IL (al c1 al0)) (bad hk)
def gRdec:List Value→Option (List Prop × Value)
 | [A]=>some ([IsB A],.tuple #[qv (dqP (aj A)),.bool (bD (aj A))])
 | _=>none
theorem CB {X:Cx} (hX:X.Ok Tryz.prog):(X.pure 45 gRdec).Ok Tryz.prog:=by
 refine aC hX Tryz.func45 (by kernel_rfl) (by kernel_rfl) ?_
 intro args ps v ha hg hp
 unfold gRdec at hg
 split at hg
 ·rename_i A
  simp only [qG,qH] at hg
  obtain ⟨rfl,rfl⟩:=hg
  have hA:=hp _ (List.mem_singleton.2 rfl)
  refine ⟨.inl (pK _ _),fun w => ?_⟩
  have h:=vL (aj A) (aT hA) w
  rw [← (show A=bv (aj A) from hA)] at h
  exact h
 ·simp at hg
def H3:Cx:=H2.pure 45 gRdec
theorem Ie (p:PT):Rep (cP (dqP (enc p))) p:=by
 have h:=jl p
 have hk:=fu p
 have e:cP (dqP (enc p))=cP (rdP (enc p)):=by
  unfold dqP rdP
  rw [hk,if_pos rfl,if_pos rfl,xG]
  unfold cP atE
  simp only
  rw [cW (nF _) (dM _),mK]
 rw [e];exact h
end Go.Proofs.YtajehiidpecknaaGreatDoor
/- The generator taken L times is the neutral point. -/
namespace Go.Proofs.YtajehiidpecknaaGreatDoor
open Go
def LN:Nat:=7237005577332262213973186563042994240857116359379907606001950938285454250989
def GB (p:P4):Bool:=decide (p.x % pp=0) && (decide (p.y % pp=p.z % pp))
theorem Iy:GB (cq LN jG)=true:=by decide +kernel
theorem lK:aP LN BP=Pt.zero DK:=by
 have h:=eB wL LN (by decide)
 have z:=Iy
 unfold GB at z
 simp only [Bool.and_eq_true,decide_eq_true_eq] at z
 obtain ⟨zx,zy⟩:=z
 obtain ⟨h1,h2,h3,_⟩:=h
 have hx:cK (cq LN jG).x=(aP LN BP).x*cK (cq LN jG).z:=h2
 have hy:cK (cq LN jG).y=(aP LN BP).y*cK (cq LN jG).z:=h3
 have hz:cK (cq LN jG).z≠0:=h1
 rw [eH.2 zx] at hx
 rw [fl.2 zy] at hy
 refine Pt.ext' ?_ ?_
 ·refine FK.cancel hz ?_
  rw [←hx]
  exact (km _).symm
 ·refine FK.cancel hz ?_
  rw [←hy]
  exact (td _).symm
end Go.Proofs.YtajehiidpecknaaGreatDoor
/- The curve's reference: what it exports, as contracts: it answers just as package point does. -/
namespace Go.Proofs.YtajehiidpecknaaGreatDoor
open Go Go.RowKit
theorem LV:GY<RN:=by decide
structure Lt where
 D:Nat→P4
 K:Nat→Bool
 S:P4→P4→P4
 M:P4→P4
 O:Nat→P4→P4
 E:P4→Nat
def cDe (L:Lt):List Value→Option (List Prop × Value)
 | [A]=>some ([IsB A],.tuple #[qv (L.D (aj A)),.bool (L.K (aj A))])
 | _=>none
def cMi (L:Lt):List Value→Option (List Prop × Value)
 | [A]=>some ([IsQ A],qv (L.M (q4 A)))
 | _=>none
def cOf (L:Lt):List Value→Option (List Prop × Value)
 | [A,B]=>some ([IsB A∧IsQ B],qv (L.O (aj A) (q4 B)))
 | _=>none
def cEn (L:Lt):List Value→Option (List Prop × Value)
 | [A]=>some ([IsQ A],bv (L.E (q4 A)))
 | _=>none
def HL (L:Lt):Cx:=((((Cx.none.pure 48 (gRS L.S)).pure 50 (cMi L)).pure 47 (cEn L)).pure 49 (cOf L)).pure 45 (cDe L)
def L0:Lt:=⟨dqP,bD,aU,GF,tk,wqN⟩
theorem Nn:cDe L0=gRdec:=rfl
theorem Mj:cMi L0=gRmir:=rfl
theorem Nc:cOf L0=xF:=rfl
theorem MM:cEn L0=xm:=rfl
theorem cS0:gRS L0.S=gRsum:=rfl
theorem GK:(HL L0).Ok Tryz.prog:=by
 unfold HL
 rw [Nn,Mj,Nc,MM,cS0]
 exact CB (tu (tZ (sN (ny Cx.none_ok))))
theorem Eb (L:Lt)  : sfun Tryz.prog (HL L) 200 Tryz.f46 (ai Tryz.f46) []=some ([],bv GY):=by kernel_rfl
theorem Fw   (w:World):Calls Tryz.prog 46 #[] w fun e w'=>e = .returned (bv GY)∧Below w.heap.size w w':=by
 exact aA GK mixed Tryz.func46 (by kernel_rfl) (Eb L0) (al0) rfl (.inl (aE _)) w
theorem Br {X:Cx} (hX:X.Ok Tryz.prog):(X.pure 46 IP).Ok Tryz.prog:=by
 refine aC hX Tryz.func46 (by kernel_rfl) (by kernel_rfl) ?_
 intro args ps v ha hg hp
 unfold IP at hg
 split at hg
 ·simp only [qG,qH] at hg
  obtain ⟨rfl,rfl⟩:=hg
  exact ⟨.inl (aE _),fun w=>Fw w⟩
 ·simp at hg
theorem L0D:L0.D=dqP:=rfl
theorem xM (n:Nat) {p:P4} (h:p.ok):(tk n p).ok:=wT h n 256
theorem yW {n a:Nat} (hn:n<RN) (ha:a<RN) (hka:bD a=true):wqN (tk n (dqP a))=wrN (cq n (rdP a)):=by
 obtain ⟨P,rfl,hP⟩:=mB ha hka
 rw [JB (xM n (m9 _)) (zk (m9 _) (Ie P) n hn)]
 exact (jr (eB hP n hn)).symm
theorem dq0 {a:Nat} (ha:a<RN):L0.D (aj (bv a))=dqP a:=by rw [L0D,ar ha]
def HL2 (L:Lt):Cx:=(HL L).pure 46 IP
theorem HU:(HL2 L0).Ok Tryz.prog:=Br GK
theorem E3 (L:Lt) (n:Nat):sfun Tryz.prog (HL2 L) 200 Tryz.f28 (ai Tryz.f28) [bv n]=some ([IsB (bv GY),IsB (bv n)∧IsQ (qv (L.D (aj (bv GY)))),IsQ (qv (L.O (aj (bv n)) (q4 (qv (L.D (aj (bv GY)))))))],bv (L.E (q4 (qv (L.O (aj (bv n)) (q4 (qv (L.D (aj (bv GY)))))))))):=by kernel_rfl
theorem yf {n:Nat} (hn:n<RN):wqN (tk n (dqP GY))=p8 n:=by
 have h:=yW (a:=enc BP) hn (mg BP) (fu BP)
 have h2:=jr (eB (jl BP) n hn)
 rw [Av] at h h2
 rw [h,h2,iM n hn]
theorem DQ (n:Nat) (hn:n<RN) (w:World):Calls Tryz.prog 28 #[bv n] w fun e w'=>e = .returned (bv (p8 n))∧Below w.heap.size w w':=by
 have r:=E3 L0 n
 rw [dq0 LV,ou (m9 GY),ar hn] at r
 have l:(L0.O n (dqP GY)).ok:=xM n (m9 GY)
 rw [ou l] at r
 have e:L0.E (L0.O n (dqP GY))=p8 n:=yf hn
 rw [e] at r
 exact aA HU mixed Tryz.func28 (by kernel_rfl) r (al (aG _) (al ⟨aG _,kj (m9 GY)⟩ (al (kj l) al0))) (by simp [aE]) (.inl (aE _)) w
def cMl (f g:Nat→Nat→Nat) (e:Nat→Int):List Value→Option (List Prop × Value)
 | [A,B]=>some ([IsB A∧IsB B],.tuple #[bv (f (aj A) (aj B)),.int .i64 (e (aj B))])
 | _=>none
def HM (f g:Nat→Nat→Nat) (e:Nat→Int):Cx:=Cx.none.pure 30 (cMl f g e)
def cCl (f:Nat→Nat) (e:Nat→Int):List Value→Option (List Prop × Value)
 | [A]=>some ([IsB A],.tuple #[bv (f (aj A)),.int .i64 (e (aj A))])
 | _=>none
def HN (f:Nat→Nat) (e:Nat→Int):Cx:=(Cx.none.pure 38 (cCl f e)).pure 65 gZer
end Go.Proofs.YtajehiidpecknaaGreatDoor
