import Derived.Test.YtajehiidpecknaaGreatDoorPoiTA
import Derived.Test.YtajehiidpecknaaGreatDoorPoiJ
set_option linter.all false
namespace Go.Proofs.YtajehiidpecknaaGreatDoor
open Go Go.RowKit
def fQ (n:Nat):Value := .agg ((bl n).take 31 ++ [Value.int .u8 (bits .and .u8 (by8 n 31) 127)]).toArray
def odQ (n:Nat):Int:=Int.fdiv (by8 n 31) (2 ^ 7)
def dyV (n:Nat):Value:=nv (aj (fQ n))
def dL (n:Nat):Value:=WM (dyV n) (dyV n)
def duV (n:Nat):Value:=WA (WM (nv DN') (dL n)) (nv 1)
def dsV (n:Nat):Value:=WM (WS (dL n) (nv 1)) (WI (duV n))
def drN (n:Nat):Nat:=rt (bf (dsV n))
def sI (n:Nat):Bool := !decide (drN n*drN n % pp=bf (dsV n) % pp)
def ncQ (n:Nat):Bool := !decide (aj (fQ n)<pp)
def tU (n:Nat):Bool:=eqB (nl (drN n)).toArray (nl 0).toArray 4
def uw (n:Nat):Bool := !(EJ (drN n) == odQ n)
theorem NX (n:Nat):sfun Tryz.prog (H2.tell [(18,true)]) 80 Tryz.f45 (ag Tryz.f45) [bv n]=some ([IsB (fQ n),ncQ n=true],.tuple #[qv noP,.bool false]):=by kernel_rfl
theorem Nw (n:Nat):sfun Tryz.prog (H2.tell [(18,false),(40,true)]) 80 Tryz.f45 (ag Tryz.f45) [bv n]=some ([IsB (fQ n),ncQ n=false,IsB (fQ n),IW (dyV n) (dyV n),IW (dL n) (nv 1),IW (nv DN') (dL n),IW (WM (nv DN') (dL n)) (nv 1),IsW (duV n),IW (WS (dL n) (nv 1)) (WI (duV n)),IsW (dsV n),sI n=true],.tuple #[qv noP,.bool false]):=by kernel_rfl
theorem NI (n:Nat):sfun Tryz.prog (H2.tell [(18,false),(40,false),(44,true),(47,true)]) 80 Tryz.f45 (ag Tryz.f45) [bv n]=some ([IsB (fQ n),ncQ n=false,IsB (fQ n),IW (dyV n) (dyV n),IW (dL n) (nv 1),IW (nv DN') (dL n),IW (WM (nv DN') (dL n)) (nv 1),IsW (duV n),IW (WS (dL n) (nv 1)) (WI (duV n)),IsW (dsV n),sI n=false,tU n=true,(odQ n == 1)=true],.tuple #[qv noP,.bool false]):=by kernel_rfl
theorem Mk (n:Nat):sfun Tryz.prog (H2.tell [(18,false),(40,false),(44,true),(47,false),(55,false)]) 80 Tryz.f45 (ag Tryz.f45) [bv n]=some ([IsB (fQ n),ncQ n=false,IsB (fQ n),IW (dyV n) (dyV n),IW (dL n) (nv 1),IW (nv DN') (dL n),IW (WM (nv DN') (dL n)) (nv 1),IsW (duV n),IW (WS (dL n) (nv 1)) (WI (duV n)),IsW (dsV n),sI n=false,tU n=true,(odQ n == 1)=false,uw n=false,IW (nv (drN n)) (dyV n)],.tuple #[qv ⟨drN n,aj (fQ n),1,rfm (bf (nv (drN n))) (bf (dyV n))⟩,.bool true]):=by kernel_rfl
theorem Lz (n:Nat):sfun Tryz.prog (H2.tell [(18,false),(40,false),(44,false),(55,false)]) 80 Tryz.f45 (ag Tryz.f45) [bv n]=some ([IsB (fQ n),ncQ n=false,IsB (fQ n),IW (dyV n) (dyV n),IW (dL n) (nv 1),IW (nv DN') (dL n),IW (WM (nv DN') (dL n)) (nv 1),IsW (duV n),IW (WS (dL n) (nv 1)) (WI (duV n)),IsW (dsV n),sI n=false,tU n=false,uw n=false,IW (nv (drN n)) (dyV n)],.tuple #[qv ⟨drN n,aj (fQ n),1,rfm (bf (nv (drN n))) (bf (dyV n))⟩,.bool true]):=by kernel_rfl
theorem Mt (n:Nat):sfun Tryz.prog (H2.tell [(18,false),(40,false),(44,false),(55,true)]) 80 Tryz.f45 (ag Tryz.f45) [bv n]=some ([IsB (fQ n),ncQ n=false,IsB (fQ n),IW (dyV n) (dyV n),IW (dL n) (nv 1),IW (nv DN') (dL n),IW (WM (nv DN') (dL n)) (nv 1),IsW (duV n),IW (WS (dL n) (nv 1)) (WI (duV n)),IsW (dsV n),sI n=false,tU n=false,uw n=true,IW (nv 0) (nv (drN n)),IsW (WS (nv 0) (nv (drN n))),IW (nv (bf (WS (nv 0) (nv (drN n))) % pp)) (dyV n)],.tuple #[qv ⟨bf (WS (nv 0) (nv (drN n))) % pp,aj (fQ n),1,rfm (bf (nv (bf (WS (nv 0) (nv (drN n))) % pp))) (bf (dyV n))⟩,.bool true]):=by kernel_rfl
theorem uP : ∀ y:Fin 256,bits .and .u8 ((y.val:Nat):Int) 127=((y.val % 128:Nat):Int)∧Int.fdiv ((y.val:Nat):Int) (2 ^ 7)=((y.val/128:Nat):Int):=by decide +kernel
theorem Fq (n:Nat) (h:n<RN):fQ n=bv (n % TT):=by
 have hb:n/256 ^ 31 % 256<256:=Nat.mod_lt _ (by decide)
 have o:=(uP ⟨n/256 ^ 31 % 256,hb⟩).1
 have o2:=(iO ⟨n/256 ^ 31 % 256,hb⟩).1
 simp only at o o2
 have e:bits .and .u8 (by8 n 31) 127=bits .andNot .u8 (by8 n 31) 128:=o.trans o2.symm
 rw [←mJ n h]
 unfold fQ dK
 rw [e]
theorem JZ {n:Nat} (h:n<RN):odQ n=if TT≤n then 1 else 0:=by
 have hb:n/256 ^ 31 % 256<256:=Nat.mod_lt _ (by decide)
 have o:=(uP ⟨n/256 ^ 31 % 256,hb⟩).2
 simp only at o
 unfold odQ
 show Int.fdiv ((n/256 ^ 31 % 256:Nat):Int) (2 ^ 7)=_
 rw [o]
 have h2:n/256 ^ 31<256:=by rw [Nat.div_lt_iff_lt_mul (by decide)];exact YI h (by decide)
 rw [YK h2,YL,←jN]
 have h4:RN=TT*2:=by decide
 by_cases ht:TT≤n
 ·rw [if_pos ht]
  have h1:n/TT<2:=by rw [Nat.div_lt_iff_lt_mul (by decide)];omega
  have h3:1≤n/TT:=by rw [Nat.le_div_iff_mul_le (by decide)];omega
  have:n/TT=1:=by omega
  rw [this];rfl
 ·rw [if_neg ht,Nat.div_eq_of_lt (by omega)];rfl
theorem IG (m n:Nat) (hm:m<RN) (hn:n<RN):eqB (nl m).toArray (nl n).toArray 4=decide (m=n):=by
 by_cases h:m=n
 ·subst h
  rw [decide_eq_true rfl]
  exact List.all_eq_true.2 fun i _=>by simp
 ·rw [decide_eq_false h]
  apply Bool.eq_false_iff.2
  intro hall
  apply h
  have e:eqB (nl m).toArray (nl n).toArray 4=((lw m 0 == lw n 0) && ((lw m 1 == lw n 1) && ((lw m 2 == lw n 2) && ((lw m 3 == lw n 3) && true)))):=rfl
  rw [e] at hall
  simp only [Bool.and_eq_true,beq_iff_eq] at hall
  obtain ⟨a0,a1,a2,a3,_⟩:=hall
  have e2:nl m=nl n:=by
   show [Value.int .u64 (lw m 0),.int .u64 (lw m 1),.int .u64 (lw m 2),.int .u64 (lw m 3)] = [.int .u64 (lw n 0),.int .u64 (lw n 1),.int .u64 (lw n 2),.int .u64 (lw n 3)]
   rw [a0,a1,a2,a3]
  rw [←gV hm,←gV hn,e2]
def sxR (y:Nat):Nat:=rfm (rfs (rfm y y) 1) (rfi (rfa (rfm DN' (rfm y y)) 1))
theorem yh {y:Nat} (hy:y<RN):sxR y % pp=sxN y % pp:=by
 apply gv.1
 have l1:=bE hy hy
 have l2:rfm DN' (rfm y y)<RN:=bE cV l1
 have l3:rfa (rfm DN' (rfm y y)) 1<RN:=bB l2 (by decide)
 unfold sxR
 rw [CZ,cY (bO _ l1) (nQ l3),jL _ l1,cY hy hy,vg l3,jO l2 (by decide),cY cV l1,cY hy hy,ns]
 rw [show cK DN'=DK from rfl,y9 (DK*(cK y*cK y)) 1]
theorem Ci {a b:Nat} (h:a % pp=b % pp):rt a=rt b:=by
 have hx:rx a=rx b:=by unfold rx;rw [Nat.pow_mod,h,←Nat.pow_mod]
 unfold rt
 rw [hx,h]
def rtN (n:Nat):Nat:=rt (sxN (n % TT))
theorem sn (n:Nat):rtN n<pp:=yk _
theorem td {n:Nat} (hs:rtN n*rtN n % pp=sxN (n % TT) % pp):eD n=ev (rtN n):=by
 unfold eD sqv;unfold rtN at *;rw [if_pos hs]
theorem FB {m:Nat} (h:m<pp):ev m=0↔m=0:=by
 unfold ev
 split <;> omega
theorem uH {n:Nat} (hs:rtN n*rtN n % pp=sxN (n % TT) % pp) (h:(rtN n % 2=1)↔TT≤n):rdX n=rtN n:=by
 have l:=sn n
 unfold rdX im
 rw [td hs]
 by_cases ht:TT≤n
 ·have h1:=h.2 ht
  rw [decide_eq_true ht,if_pos rfl]
  unfold ev
  rw [if_pos h1]
  unfold fsb
  rw [Nat.zero_add,YK (show pp - rtN n<pp by omega),show pp - (pp - rtN n)=rtN n by omega,YK l]
 ·have h1 : ¬ rtN n % 2=1:=fun e=>ht (h.1 e)
  rw [decide_eq_false ht,if_neg Bool.false_ne_true]
  unfold ev
  rw [if_neg h1]
theorem yQ {n:Nat} (hs:rtN n*rtN n % pp=sxN (n % TT) % pp) (h : ¬ ((rtN n % 2=1)↔TT≤n)) (hz : ¬ rtN n=0):rdX n=rfs 0 (rtN n) % pp:=by
 have l:=sn n
 have e:rfs 0 (rtN n) % pp=pp - rtN n:=by
  unfold rfs
  rw [rD (sV _ (by decide)),YK l,Nat.zero_add,YK (by omega)]
 rw [e]
 unfold rdX im
 rw [td hs]
 by_cases ht:TT≤n
 ·have h1 : ¬ rtN n % 2=1:=fun e=>h ⟨fun _=>ht,fun _=>e⟩
  rw [decide_eq_true ht,if_pos rfl]
  unfold ev
  rw [if_neg h1]
  unfold fsb
  rw [Nat.zero_add,YK l,YK (by omega)]
 ·have h1:rtN n % 2=1:=by
   by_cases h2:rtN n % 2=1
   ·exact h2
   ·exact absurd ⟨fun e=>absurd e h2,fun e=>absurd e ht⟩ h
  rw [decide_eq_false ht,if_neg Bool.false_ne_true]
  unfold ev
  rw [if_pos h1]
def dqP (n:Nat):P4:=if a7 n then ⟨rdX n,n % TT,1,rfm (rdX n) (n % TT)⟩ else noP
theorem nX (n:Nat):rdX n<RN:=by
 unfold rdX
 split
 ·exact oa _ _
 ·exact rK _
theorem Jx:noP.ok:=⟨by decide,by decide,by decide,by decide⟩
theorem cJ (n:Nat):(dqP n).ok:=by
 unfold dqP
 split
 ·exact ⟨nX n,ej n,(show (1:Nat)<RN by decide),bE (nX n) (ej n)⟩
 ·exact Jx
theorem pZ (p:P4) (b:Bool):flat (.tuple #[qv p,.bool b])=true:=rfl
theorem FW (r:Nat) (t:Prop) [Decidable t]:(!(((r % 2:Nat):Int) == (if t then 1 else 0))) = !decide ((r % 2=1)↔t):=by
 generalize hx:r % 2=x
 have hx:x=0∨x=1:=by omega
 rcases hx with rfl | rfl <;> by_cases ht:t <;> simp [ht]
set_option maxHeartbeats 1000000 in
theorem nc (n:Nat) (h:n<RN) (w:World):Calls Tryz.prog 45 #[bv n] w fun e w'=>e = .returned (.tuple #[qv (dqP n),.bool (a7 n)])∧Below w.heap.size w w':=by
 have hl:=Fq n h
 have ly:=ej n
 have fin : ∀ {X:Cx} (hX:X.Ok Tryz.prog) (hg:X.gl = []) {ps:List Prop} {v:Value} (run:sfun Tryz.prog X 80 Tryz.f45 (ag Tryz.f45) [bv n]=some (ps,v)) (hp : ∀ p ∈ ps,p) (hv:v = .tuple #[qv (dqP n),.bool (a7 n)]),Calls Tryz.prog 45 #[bv n] w fun e w'=>e = .returned (.tuple #[qv (dqP n),.bool (a7 n)])∧Below w.heap.size w w':=by
  intro X hX hg ps v run hp hv
  subst hv
  exact au hX mixed Tryz.func45 (by kernel_rfl) run hp (by simp [aE]) (.inl (pZ _ _)) w hg
 have bad:a7 n=false→(Value.tuple #[qv noP,.bool false]) = .tuple #[qv (dqP n),.bool (a7 n)]:=fun hk=>by
  unfold dqP;rw [hk,if_neg Bool.false_ne_true]
 have IL:IsB (fQ n):=by rw [hl];exact aI _
 have ebn:aj (fQ n)=n % TT:=by rw [hl,ao ly]
 have ey:dyV n=nv (n % TT):=by unfold dyV;rw [ebn]
 have lyy:=bE ly ly
 have eyy:dL n=nv (rfm (n % TT) (n % TT)):=by unfold dL;rw [ey,vWM ly ly]
 have lD:rfm DN' (rfm (n % TT) (n % TT))<RN:=bE cV lyy
 have lU:rfa (rfm DN' (rfm (n % TT) (n % TT))) 1<RN:=bB lD (by decide)
 have eu:duV n=nv (rfa (rfm DN' (rfm (n % TT) (n % TT))) 1):=by unfold duV;rw [eyy,vWM cV lyy,vWA lD (by decide)]
 have lI:=nQ lU
 have lS:rfs (rfm (n % TT) (n % TT)) 1<RN:=bO _ lyy
 have es:dsV n=nv (sxR (n % TT)):=by unfold dsV;rw [eyy,eu,vWS lyy (by decide),vWI lU,vWM lS lI];rfl
 have lsx:sxR (n % TT)<RN:=bE lS lI
 have ew:bf (dsV n)=sxR (n % TT):=by rw [es,aX lsx]
 have er:drN n=rtN n:=by unfold drN rtN;rw [ew];exact Ci (yh ly)
 have lr:rtN n<RN:=Nat.lt_trans (sn n) jR
 have i1:IW (dyV n) (dyV n):=by rw [ey];exact iw ly ly
 have i2:IW (dL n) (nv 1):=by rw [eyy];exact iw lyy (by decide)
 have i3:IW (nv DN') (dL n):=by rw [eyy];exact iw cV lyy
 have i4:IW (WM (nv DN') (dL n)) (nv 1):=by rw [eyy,vWM cV lyy];exact iw lD (by decide)
 have i5:IsW (duV n):=by rw [eu];exact eV lU
 have i6:IW (WS (dL n) (nv 1)) (WI (duV n)):=by rw [eyy,eu,vWS lyy (by decide),vWI lU];exact iw lS lI
 have i7:IsW (dsV n):=by rw [es];exact eV lsx
 have i8:IW (nv (drN n)) (dyV n):=by rw [er,ey];exact iw lr ly
 have hok:=oy n
 have hnok:sI n = !decide (rtN n*rtN n % pp=sxN (n % TT) % pp):=by unfold sI;rw [er,ew,yh ly]
 have hzer:tU n=decide (rtN n=0):=by unfold tU;rw [er];exact IG _ 0 lr (by decide)
 have hodd:=JZ h
 have hneq:uw n = !decide ((rtN n % 2=1)↔TT≤n):=by
  unfold uw
  rw [er,xP,hodd]
  exact FW (rtN n) (TT≤n)
 by_cases hc:n % TT<pp
 ·have c1:ncQ n=false:=by unfold ncQ;rw [ebn];simp [hc]
  by_cases hs:rtN n*rtN n % pp=sxN (n % TT) % pp
  ·have e1:sI n=false:=by rw [hnok];simp [hs]
   have hz0:eD n=0↔rtN n=0:=by rw [td hs];exact FB (sn n)
   by_cases hz:rtN n=0
   ·have z1:tU n=true:=by rw [hzer];simp [hz]
    by_cases ht:TT≤n
    ·have o1:(odQ n == 1)=true:=by rw [hodd,if_pos ht];rfl
     have hk:a7 n=false:=by
      cases hq:a7 n
      ·rfl
      ·exact absurd ⟨ht,hz0.2 hz⟩ (hok.1 hq).2.2
     exact fin (Cx.tell_ok qo _) rfl (NI n) (al IL (al c1 (al IL (al i1 (al i2 (al i3 (al i4 (al i5 (al i6 (al i7 (al e1 (al z1 (al o1 al0))))))))))))) (bad hk)
    ·have o1:(odQ n == 1)=false:=by rw [hodd,if_neg ht];rfl
     have hm:(rtN n % 2=1)↔TT≤n:=⟨fun e=>by rw [hz] at e;exact absurd e (by decide),fun e=>absurd e ht⟩
     have n1:uw n=false:=by rw [hneq];simp [hm]
     have hk:a7 n=true:=hok.2 ⟨hc,iI.2 hs,fun e=>ht e.1⟩
     refine fin (Cx.tell_ok qo _) rfl (Mk n) (al IL (al c1 (al IL (al i1 (al i2 (al i3 (al i4 (al i5 (al i6 (al i7 (al e1 (al z1 (al o1 (al n1 (al i8 al0))))))))))))))) ?_
     unfold dqP
     rw [hk,if_pos rfl,ey,er,ebn,aX lr,aX ly,uH hs hm]
   ·have z1:tU n=false:=by rw [hzer];simp [hz]
    have hk:a7 n=true:=hok.2 ⟨hc,iI.2 hs,fun e=>hz (hz0.1 e.2)⟩
    by_cases hm:(rtN n % 2=1)↔TT≤n
    ·have n1:uw n=false:=by rw [hneq];simp [hm]
     refine fin (Cx.tell_ok qo _) rfl (Lz n) (al IL (al c1 (al IL (al i1 (al i2 (al i3 (al i4 (al i5 (al i6 (al i7 (al e1 (al z1 (al n1 (al i8 al0)))))))))))))) ?_
     unfold dqP
     rw [hk,if_pos rfl,ey,er,ebn,aX lr,aX ly,uH hs hm]
    ·have n1:uw n=true:=by rw [hneq,decide_eq_false hm];rfl
     have lm:rfs 0 (rtN n)<RN:=bO _ (by decide)
     have j1:IW (nv 0) (nv (drN n)):=by rw [er];exact iw (by decide) lr
     have j2:IsW (WS (nv 0) (nv (drN n))):=by rw [er,vWS (by decide) lr];exact eV lm
     have ex:bf (WS (nv 0) (nv (drN n))) % pp=rdX n:=by rw [er,vWS (by decide) lr,aX lm,yQ hs hm hz]
     have j3:IW (nv (bf (WS (nv 0) (nv (drN n))) % pp)) (dyV n):=by rw [ex,ey];exact iw (nX n) ly
     refine fin (Cx.tell_ok qo _) rfl (Mt n) (al IL (al c1 (al IL (al i1 (al i2 (al i3 (al i4 (al i5 (al i6 (al i7 (al e1 (al z1 (al n1 (al j1 (al j2 (al j3 al0)))))))))))))))) ?_
     unfold dqP
     rw [hk,if_pos rfl,ey,ex,ebn,aX (nX n),aX ly]
  ·have e1:sI n=true:=by rw [hnok,decide_eq_false hs];rfl
   have hk:a7 n=false:=by
    cases hq:a7 n
    ·rfl
    ·exact absurd (iI.1 (hok.1 hq).2.1) hs
   exact fin (Cx.tell_ok qo _) rfl (Nw n) (al IL (al c1 (al IL (al i1 (al i2 (al i3 (al i4 (al i5 (al i6 (al i7 (al e1 al0))))))))))) (bad hk)
 ·have c1:ncQ n=true:=by unfold ncQ;rw [ebn];simp [hc]
  have hk:a7 n=false:=by
   cases hq:a7 n
   ·rfl
   ·exact absurd (hok.1 hq).1 hc
  exact fin (Cx.tell_ok qo _) rfl (NX n) (al IL (al c1 al0)) (bad hk)
def gRdec:List Value→Option (List Prop × Value)
 | [A]=>some ([IsB A],.tuple #[qv (dqP (aj A)),.bool (a7 (aj A))])
 | _=>none
theorem Bf {X:Cx} (hX:X.Ok Tryz.prog):(X.pure 45 gRdec).Ok Tryz.prog:=by
 refine aC hX Tryz.func45 (by kernel_rfl) (by kernel_rfl) ?_
 intro args ps v ha hg hp
 unfold gRdec at hg
 split at hg
 ·rename_i A
  simp only [qG,qH] at hg
  obtain ⟨rfl,rfl⟩:=hg
  have hA:=hp _ (YJ.2 rfl)
  refine ⟨.inl (pZ _ _),fun w => ?_⟩
  have h:=nc (aj A) (aS hA) w
  rw [← (show A=bv (aj A) from hA)] at h
  exact h
 ·simp at hg
def H3:Cx:=H2.pure 45 gRdec
theorem nI (p:PT):Rep (cP (dqP (enc p))) p:=by
 have h:=kF p
 have hk:=gM p
 have e:cP (dqP (enc p))=cP (rdP (enc p)):=by
  unfold dqP rdP
  rw [hk,if_pos rfl,if_pos rfl,yJ]
  unfold cP atE
  simp only
  rw [cY (nX _) (ej _),ns]
 rw [e];exact h
end Go.Proofs.YtajehiidpecknaaGreatDoor
namespace Go.Proofs.YtajehiidpecknaaGreatDoor
open Go Go.RowKit
theorem ib2 {A B:Nat} : IsB (bv A)∧IsB (bv B):=⟨aI _,aI _⟩
structure Lt where
 D:Nat→P4
 K:Nat→Bool
 S:P4→P4→P4
 M:P4→P4
 O:Nat→P4→P4
 E:P4→Nat
def cDe (L:Lt):List Value→Option (List Prop × Value)
 | [A]=>some ([IsB A],.tuple #[qv (L.D (aj A)),.bool (L.K (aj A))])
 | _=>none
def cMi (L:Lt):List Value→Option (List Prop × Value)
 | [A]=>some ([IsQ A],qv (L.M (q4 A)))
 | _=>none
def cOf (L:Lt):List Value→Option (List Prop × Value)
 | [A,B]=>some ([IsB A∧IsQ B],qv (L.O (aj A) (q4 B)))
 | _=>none
def cEn (L:Lt):List Value→Option (List Prop × Value)
 | [A]=>some ([IsQ A],bv (L.E (q4 A)))
 | _=>none
def HL (L:Lt):Cx:=((((Cx.none.pure 48 (gRS L.S)).pure 50 (cMi L)).pure 47 (cEn L)).pure 49 (cOf L)).pure 45 (cDe L)
def L0:Lt:=⟨dqP,a7,aT,iH,eg,wqN⟩
theorem NL:cDe L0=gRdec:=rfl
theorem N6:cMi L0=gRmir:=rfl
theorem N4:cOf L0=xN:=rfl
theorem Na:cEn L0=yC:=rfl
theorem cS0:gRS L0.S=gRsum:=rfl
theorem xK:(HL L0).Ok Tryz.prog:=by
 unfold HL
 rw [NL,N6,N4,Na,cS0]
 exact Bf (tN (tR (tW (nB Cx.none_ok))))
theorem Fb (L:Lt)  : sfun Tryz.prog (HL L) 200 Tryz.f65 (ag Tryz.f65) []=some ([],bv 1):=by kernel_rfl
theorem xx   (w:World):Calls Tryz.prog 65 #[] w fun e w'=>e = .returned (bv 1)∧Below w.heap.size w w':=by
 exact au xK mixed Tryz.func65 (by kernel_rfl) (Fb L0) (al0) rfl (.inl (aE _)) w
theorem CK {X:Cx} (hX:X.Ok Tryz.prog):(X.pure 65 gZer).Ok Tryz.prog:=by
 refine aC hX Tryz.func65 (by kernel_rfl) (by kernel_rfl) ?_
 intro args ps v ha hg hp
 unfold gZer at hg
 split at hg
 ·simp only [qG,qH] at hg
  obtain ⟨rfl,rfl⟩:=hg
  exact ⟨.inl (aE _),fun w=>xx w⟩
 ·simp at hg
theorem ET (L:Lt)  : sfun Tryz.prog (HL L) 200 Tryz.f46 (ag Tryz.f46) []=some ([],bv GY):=by kernel_rfl
theorem GH   (w:World):Calls Tryz.prog 46 #[] w fun e w'=>e = .returned (bv GY)∧Below w.heap.size w w':=by
 exact au xK mixed Tryz.func46 (by kernel_rfl) (ET L0) (al0) rfl (.inl (aE _)) w
theorem L0K:L0.K=a7:=rfl
theorem L0D:L0.D=dqP:=rfl
theorem kNo {a:Nat} (ha:a<RN) (h:a7 a=false):(!L0.K (aj (bv a)))=true:=by rw [L0K,ao ha,h];rfl
theorem NG {a:Nat} (ha:a<RN) (h:a7 a=true):(!L0.K (aj (bv a)))=false:=by rw [L0K,ao ha,h];rfl
theorem xD (n:Nat) {p:P4} (h:p.ok):(eg n p).ok:=ka h n 256
theorem zz {n a:Nat} (hn:n<RN) (ha:a<RN) (hka:a7 a=true):wqN (eg n (dqP a))=wrN (dG n (rdP a)):=by
 obtain ⟨P,rfl,hP⟩:=eU ha hka
 rw [w8 (xD n (cJ _)) (fV (cJ _) (nI P) n hn)]
 exact (kZ (iR hP n hn)).symm
theorem dq0 {a:Nat} (ha:a<RN):L0.D (aj (bv a))=dqP a:=by rw [L0D,ao ha]
theorem D5 (L:Lt) (n:Nat) (a:Nat):sfun Tryz.prog ((HL L).tell [(14,true)]) 200 Tryz.f30 (ag Tryz.f30) [bv n,bv a]=some ([IsB (bv a),(!L.K (aj (bv a)))=true],.tuple #[bv 0,.int .i64 2]):=by kernel_rfl
theorem Dy (L:Lt) (n:Nat) (a:Nat):sfun Tryz.prog ((HL L).tell [(14,false)]) 200 Tryz.f30 (ag Tryz.f30) [bv n,bv a]=some ([IsB (bv a),(!L.K (aj (bv a)))=false,IsB (bv n)∧IsQ (qv (L.D (aj (bv a)))),IsQ (qv (L.O (aj (bv n)) (q4 (qv (L.D (aj (bv a)))))))],.tuple #[bv (L.E (q4 (qv (L.O (aj (bv n)) (q4 (qv (L.D (aj (bv a))))))))),.int .i64 0]):=by kernel_rfl
theorem Ev (n:Nat) (a:Nat) (hn:n<RN) (ha:a<RN) (w:World):Calls Tryz.prog 30 #[bv n,bv a] w fun e w'=>e = .returned (.tuple #[bv (fk n a),.int .i64 (rdE a)])∧Below w.heap.size w w':=by
 cases hka:a7 a
 ·rw [dv hka]
  unfold fk
  rw [hka,if_neg Bool.false_ne_true]
  exact au (Cx.tell_ok xK _) mixed Tryz.func30 (by kernel_rfl) (D5 L0 n a) (al (aI _) (al (kNo ha hka) al0)) (by simp [aE]) (.inl (bu _ _)) w
 ·have r:=Dy L0 n a
  rw [dq0 ha,qV (cJ a),ao hn] at r
  have l:(L0.O n (dqP a)).ok:=xD n (cJ a)
  rw [qV l] at r
  have e:L0.E (L0.O n (dqP a))=wrN (dG n (rdP a)):=zz hn ha hka
  rw [e] at r
  rw [dj hka]
  unfold fk
  rw [hka,if_pos rfl]
  exact au (Cx.tell_ok xK _) mixed Tryz.func30 (by kernel_rfl) r (al (aI _) (al (NG ha hka) (al ⟨aI _,lg (cJ a)⟩ (al (lg l) al0)))) (by simp [aE]) (.inl (bu _ _)) w
theorem Bb {X:Cx} (hX:X.Ok Tryz.prog):(X.pure 30 gPml).Ok Tryz.prog:=by
 refine aC hX Tryz.func30 (by kernel_rfl) (by kernel_rfl) ?_
 intro args ps v ha hg hp
 unfold gPml at hg
 split at hg
 ·rename_i A B
  simp only [qG,qH] at hg
  obtain ⟨rfl,rfl⟩:=hg
  obtain ⟨hA,hB⟩:=hp _ (YJ.2 rfl)
  refine ⟨.inl (bu _ _),fun w => ?_⟩
  have h:=Ev (aj A) (aj B) (aS hA) (aS hB) w
  rw [← (show A=bv (aj A) from hA),← (show B=bv (aj B) from hB)] at h
  exact h
 ·simp at hg
def cMl (f g:Nat→Nat→Nat) (e:Nat→Int):List Value→Option (List Prop × Value)
 | [A,B]=>some ([IsB A∧IsB B],.tuple #[bv (f (aj A) (aj B)),.int .i64 (e (aj B))])
 | _=>none
def HM (f g:Nat→Nat→Nat) (e:Nat→Int):Cx:=Cx.none.pure 30 (cMl f g e)
theorem M5:cMl fk fk rdE=gPml:=rfl
theorem LZ:(HM fk fk rdE).Ok Tryz.prog:=by
 unfold HM
 rw [M5]
 exact Bb Cx.none_ok
theorem GQ (f g:Nat→Nat→Nat) (e:Nat→Int) (a:Nat):sfun Tryz.prog (HM f g e) 100 Tryz.f38 (ag Tryz.f38) [bv a]=some ([IsB (bv 8)∧IsB (bv a)],.tuple #[bv (f (aj (bv 8)) (aj (bv a))),.int .i64 (e (aj (bv a)))]):=by kernel_rfl
theorem yS {a:Nat} (ha:a<RN):fk 8 a=ig a:=by
 cases hka:a7 a
 ·unfold fk ig
  rw [hka,if_neg Bool.false_ne_true,if_neg Bool.false_ne_true]
 ·obtain ⟨P,rfl,_⟩:=eU ha hka
  rw [iY 8 (by decide),rF]
theorem yD (a:Nat) (ha:a<RN) (w:World):Calls Tryz.prog 38 #[bv a] w fun e w'=>e = .returned (.tuple #[bv (ig a),.int .i64 (rdE a)])∧Below w.heap.size w w':=by
 have r:=GQ fk fk rdE a
 rw [ao (n:=8) (by decide),ao ha,yS ha] at r
 exact au LZ mixed Tryz.func38 (by kernel_rfl) r (al ib2 al0) (by simp [aE]) (.inl (bu _ _)) w
theorem Be {X:Cx} (hX:X.Ok Tryz.prog):(X.pure 38 z8).Ok Tryz.prog:=by
 refine aC hX Tryz.func38 (by kernel_rfl) (by kernel_rfl) ?_
 intro args ps v ha hg hp
 unfold z8 at hg
 split at hg
 ·rename_i A
  simp only [qG,qH] at hg
  obtain ⟨rfl,rfl⟩:=hg
  have hA:=hp _ (YJ.2 rfl)
  refine ⟨.inl (bu _ _),fun w => ?_⟩
  have h:=yD (aj A) (aS hA) w
  rw [← (show A=bv (aj A) from hA)] at h
  exact h
 ·simp at hg
def cCl (f:Nat→Nat) (e:Nat→Int):List Value→Option (List Prop × Value)
 | [A]=>some ([IsB A],.tuple #[bv (f (aj A)),.int .i64 (e (aj A))])
 | _=>none
def HN (f:Nat→Nat) (e:Nat→Int):Cx:=(Cx.none.pure 38 (cCl f e)).pure 65 gZer
theorem Nz:cCl ig rdE=z8:=rfl
theorem H7:(HN ig rdE).Ok Tryz.prog:=by
 unfold HN
 rw [Nz]
 exact CK (Be Cx.none_ok)
theorem Dx (f:Nat→Nat) (e:Nat→Int) (a:Nat):sfun Tryz.prog ((HN f e).tell [(12,false)]) 100 Tryz.f44 (ag Tryz.f44) [bv a]=some ([IsB (bv a),(e (aj (bv a)) == 0)=false],.tuple #[.bool false,.int .i64 (e (aj (bv a)))]):=by kernel_rfl
theorem AA (f:Nat→Nat) (e:Nat→Int) (a:Nat):sfun Tryz.prog ((HN f e).tell [(12,true)]) 100 Tryz.f44 (ag Tryz.f44) [bv a]=some ([IsB (bv a),(e (aj (bv a)) == 0)=true],.tuple #[.bool (eqB (bl (f (aj (bv a)))).toArray (bl 1).toArray 32),.int .i64 (e (aj (bv a)))]):=by kernel_rfl
theorem Gs (a:Nat) (ha:a<RN) (w:World):Calls Tryz.prog 44 #[bv a] w fun e w'=>e = .returned (.tuple #[.bool (wa a),.int .i64 (rdE a)])∧Below w.heap.size w w':=by
 cases hk:a7 a
 ·have r:=Dx ig rdE a
  rw [ao ha,dv hk] at r
  rw [dv hk]
  unfold wa
  rw [hk,Bool.false_and]
  exact au (Cx.tell_ok H7 _) mixed Tryz.func44 (by kernel_rfl) r (al (aI _) (al rfl al0)) (by simp [aE]) (.inl (iS _ _)) w
 ·have r:=AA ig rdE a
  rw [ao ha,dj hk,vP _ 1 (rQ a) (by decide)] at r
  rw [dj hk]
  unfold wa
  rw [hk,Bool.true_and]
  exact au (Cx.tell_ok H7 _) mixed Tryz.func44 (by kernel_rfl) r (al (aI _) (al rfl al0)) (by simp [aE]) (.inl (iS _ _)) w
end Go.Proofs.YtajehiidpecknaaGreatDoor
