import Derived.Test.YtajehiidpecknaaGreatDoorPoiTA
import Derived.Test.YtajehiidpecknaaGreatDoorPoiJ
set_option linter.all false
namespace Go.Proofs.YtajehiidpecknaaGreatDoor
open Go Go.RowKit
def gx (n:Nat):Value := .agg ((bl n).take 31 ++ [Value.int .u8 (bits .and .u8 (by8 n 31) 127)]).toArray
def odQ (n:Nat):Int:=Int.fdiv (by8 n 31) (2 ^ 7)
def dyV (n:Nat):Value:=nv (ai (gx n))
def dJ (n:Nat):Value:=WM (dyV n) (dyV n)
def duV (n:Nat):Value:=WA (WM (nv DN') (dJ n)) (nv 1)
def dsV (n:Nat):Value:=WM (WS (dJ n) (nv 1)) (WI (duV n))
def drN (n:Nat):Nat:=rt (bg (dsV n))
def r9 (n:Nat):Bool := !decide (drN n*drN n % pp=bg (dsV n) % pp)
def ncQ (n:Nat):Bool := !decide (ai (gx n)<pp)
def uQ (n:Nat):Bool:=eqB (nl (drN n)).toArray (nl 0).toArray 4
def vz (n:Nat):Bool := !(Gw (drN n) == odQ n)
theorem P8 (n:Nat):sfun Tryz.prog (H2.tell [(18,true)]) 80 Tryz.f45 (ag Tryz.f45) [bv n]=some ([IsB (gx n),ncQ n=true],.tuple #[qv noP,.bool false]):=by kernel_rfl
theorem Ql (n:Nat):sfun Tryz.prog (H2.tell [(18,false),(40,true)]) 80 Tryz.f45 (ag Tryz.f45) [bv n]=some ([IsB (gx n),ncQ n=false,IsB (gx n),IW (dyV n) (dyV n),IW (dJ n) (nv 1),IW (nv DN') (dJ n),IW (WM (nv DN') (dJ n)) (nv 1),IsW (duV n),IW (WS (dJ n) (nv 1)) (WI (duV n)),IsW (dsV n),r9 n=true],.tuple #[qv noP,.bool false]):=by kernel_rfl
theorem OQ (n:Nat):sfun Tryz.prog (H2.tell [(18,false),(40,false),(44,true),(47,true)]) 80 Tryz.f45 (ag Tryz.f45) [bv n]=some ([IsB (gx n),ncQ n=false,IsB (gx n),IW (dyV n) (dyV n),IW (dJ n) (nv 1),IW (nv DN') (dJ n),IW (WM (nv DN') (dJ n)) (nv 1),IsW (duV n),IW (WS (dJ n) (nv 1)) (WI (duV n)),IsW (dsV n),r9 n=false,uQ n=true,(odQ n == 1)=true],.tuple #[qv noP,.bool false]):=by kernel_rfl
theorem ME (n:Nat):sfun Tryz.prog (H2.tell [(18,false),(40,false),(44,true),(47,false),(55,false)]) 80 Tryz.f45 (ag Tryz.f45) [bv n]=some ([IsB (gx n),ncQ n=false,IsB (gx n),IW (dyV n) (dyV n),IW (dJ n) (nv 1),IW (nv DN') (dJ n),IW (WM (nv DN') (dJ n)) (nv 1),IsW (duV n),IW (WS (dJ n) (nv 1)) (WI (duV n)),IsW (dsV n),r9 n=false,uQ n=true,(odQ n == 1)=false,vz n=false,IW (nv (drN n)) (dyV n)],.tuple #[qv ⟨drN n,ai (gx n),1,rfm (bg (nv (drN n))) (bg (dyV n))⟩,.bool true]):=by kernel_rfl
theorem NF (n:Nat):sfun Tryz.prog (H2.tell [(18,false),(40,false),(44,false),(55,false)]) 80 Tryz.f45 (ag Tryz.f45) [bv n]=some ([IsB (gx n),ncQ n=false,IsB (gx n),IW (dyV n) (dyV n),IW (dJ n) (nv 1),IW (nv DN') (dJ n),IW (WM (nv DN') (dJ n)) (nv 1),IsW (duV n),IW (WS (dJ n) (nv 1)) (WI (duV n)),IsW (dsV n),r9 n=false,uQ n=false,vz n=false,IW (nv (drN n)) (dyV n)],.tuple #[qv ⟨drN n,ai (gx n),1,rfm (bg (nv (drN n))) (bg (dyV n))⟩,.bool true]):=by kernel_rfl
theorem Mt (n:Nat):sfun Tryz.prog (H2.tell [(18,false),(40,false),(44,false),(55,true)]) 80 Tryz.f45 (ag Tryz.f45) [bv n]=some ([IsB (gx n),ncQ n=false,IsB (gx n),IW (dyV n) (dyV n),IW (dJ n) (nv 1),IW (nv DN') (dJ n),IW (WM (nv DN') (dJ n)) (nv 1),IsW (duV n),IW (WS (dJ n) (nv 1)) (WI (duV n)),IsW (dsV n),r9 n=false,uQ n=false,vz n=true,IW (nv 0) (nv (drN n)),IsW (WS (nv 0) (nv (drN n))),IW (nv (bg (WS (nv 0) (nv (drN n))) % pp)) (dyV n)],.tuple #[qv ⟨bg (WS (nv 0) (nv (drN n))) % pp,ai (gx n),1,rfm (bg (nv (bg (WS (nv 0) (nv (drN n))) % pp))) (bg (dyV n))⟩,.bool true]):=by kernel_rfl
theorem vN : ∀ y:Fin 256,bits .and .u8 ((y.val:Nat):Int) 127=((y.val % 128:Nat):Int)∧Int.fdiv ((y.val:Nat):Int) (2 ^ 7)=((y.val/128:Nat):Int):=by decide +kernel
theorem Ft (n:Nat) (h:n<RN):gx n=bv (n % TT):=by
 have hb:n/256 ^ 31 % 256<256:=Nat.mod_lt _ (by decide)
 have o:=(vN ⟨n/256 ^ 31 % 256,hb⟩).1
 have o2:=(iE ⟨n/256 ^ 31 % 256,hb⟩).1
 simp only at o o2
 have e:bits .and .u8 (by8 n 31) 127=bits .andNot .u8 (by8 n 31) 128:=o.trans o2.symm
 rw [←mP n h]
 unfold gx dK
 rw [e]
theorem LI {n:Nat} (h:n<RN):odQ n=if TT≤n then 1 else 0:=by
 have hb:n/256 ^ 31 % 256<256:=Nat.mod_lt _ (by decide)
 have o:=(vN ⟨n/256 ^ 31 % 256,hb⟩).2
 simp only at o
 unfold odQ
 show Int.fdiv ((n/256 ^ 31 % 256:Nat):Int) (2 ^ 7)=_
 rw [o]
 have h2:n/256 ^ 31<256:=by rw [Nat.div_lt_iff_lt_mul (by decide)];exact YI h (by decide)
 rw [YK h2,YL,←jQ]
 have h4:RN=TT*2:=by decide
 by_cases ht:TT≤n
 ·rw [if_pos ht]
  have h1:n/TT<2:=by rw [Nat.div_lt_iff_lt_mul (by decide)];omega
  have h3:1≤n/TT:=by rw [Nat.le_div_iff_mul_le (by decide)];omega
  have:n/TT=1:=by omega
  rw [this];rfl
 ·rw [if_neg ht,Nat.div_eq_of_lt (by omega)];rfl
theorem Lv (m n:Nat) (hm:m<RN) (hn:n<RN):eqB (nl m).toArray (nl n).toArray 4=decide (m=n):=by
 by_cases h:m=n
 ·subst h
  rw [decide_eq_true rfl]
  exact List.all_eq_true.2 fun i _=>by simp
 ·rw [decide_eq_false h]
  apply Bool.eq_false_iff.2
  intro hall
  apply h
  have e:eqB (nl m).toArray (nl n).toArray 4=((lw m 0 == lw n 0) && ((lw m 1 == lw n 1) && ((lw m 2 == lw n 2) && ((lw m 3 == lw n 3) && true)))):=rfl
  rw [e] at hall
  simp only [Bool.and_eq_true,beq_iff_eq] at hall
  obtain ⟨a0,a1,a2,a3,_⟩:=hall
  have e2:nl m=nl n:=by
   show [Value.int .u64 (lw m 0),.int .u64 (lw m 1),.int .u64 (lw m 2),.int .u64 (lw m 3)] = [.int .u64 (lw n 0),.int .u64 (lw n 1),.int .u64 (lw n 2),.int .u64 (lw n 3)]
   rw [a0,a1,a2,a3]
  rw [←gZ hm,←gZ hn,e2]
def sxR (y:Nat):Nat:=rfm (rfs (rfm y y) 1) (rfi (rfa (rfm DN' (rfm y y)) 1))
theorem yx {y:Nat} (hy:y<RN):sxR y % pp=sxN y % pp:=by
 apply gA.1
 have l1:=bI hy hy
 have l2:rfm DN' (rfm y y)<RN:=bI dd l1
 have l3:rfa (rfm DN' (rfm y y)) 1<RN:=bE l2 (by decide)
 unfold sxR
 rw [CF,di (bT _ l1) (ou l3),jX _ l1,di hy hy,xi l3,j5 l2 (by decide),di dd l1,di hy hy,nx]
 rw [show cK DN'=DK from rfl,Be (DK*(cK y*cK y)) 1]
theorem BL {a b:Nat} (h:a % pp=b % pp):rt a=rt b:=by
 have hx:rx a=rx b:=by unfold rx;rw [Nat.pow_mod,h,←Nat.pow_mod]
 unfold rt
 rw [hx,h]
def rtN (n:Nat):Nat:=rt (sxN (n % TT))
theorem sN (n:Nat):rtN n<pp:=yw _
theorem tC {n:Nat} (hs:rtN n*rtN n % pp=sxN (n % TT) % pp):eJ n=ev (rtN n):=by
 unfold eJ sqv;unfold rtN at *;rw [if_pos hs]
theorem GJ {m:Nat} (h:m<pp):ev m=0↔m=0:=by
 unfold ev
 split <;> omega
theorem uM {n:Nat} (hs:rtN n*rtN n % pp=sxN (n % TT) % pp) (h:(rtN n % 2=1)↔TT≤n):rdX n=rtN n:=by
 have l:=sN n
 unfold rdX iz
 rw [tC hs]
 by_cases ht:TT≤n
 ·have h1:=h.2 ht
  rw [decide_eq_true ht,if_pos rfl]
  unfold ev
  rw [if_pos h1]
  unfold fsb
  rw [Nat.zero_add,YK (show pp - rtN n<pp by omega),show pp - (pp - rtN n)=rtN n by omega,YK l]
 ·have h1 : ¬ rtN n % 2=1:=fun e=>ht (h.1 e)
  rw [decide_eq_false ht,if_neg Bool.false_ne_true]
  unfold ev
  rw [if_neg h1]
theorem AF {n:Nat} (hs:rtN n*rtN n % pp=sxN (n % TT) % pp) (h : ¬ ((rtN n % 2=1)↔TT≤n)) (hz : ¬ rtN n=0):rdX n=rfs 0 (rtN n) % pp:=by
 have l:=sN n
 have e:rfs 0 (rtN n) % pp=pp - rtN n:=by
  unfold rfs
  rw [r8 (sJ _ (by decide)),YK l,Nat.zero_add,YK (by omega)]
 rw [e]
 unfold rdX iz
 rw [tC hs]
 by_cases ht:TT≤n
 ·have h1 : ¬ rtN n % 2=1:=fun e=>h ⟨fun _=>ht,fun _=>e⟩
  rw [decide_eq_true ht,if_pos rfl]
  unfold ev
  rw [if_neg h1]
  unfold fsb
  rw [Nat.zero_add,YK l,YK (by omega)]
 ·have h1:rtN n % 2=1:=by
   by_cases h2:rtN n % 2=1
   ·exact h2
   ·exact absurd ⟨fun e=>absurd e h2,fun e=>absurd e ht⟩ h
  rw [decide_eq_false ht,if_neg Bool.false_ne_true]
  unfold ev
  rw [if_pos h1]
def dqP (n:Nat):P4:=if a8 n then ⟨rdX n,n % TT,1,rfm (rdX n) (n % TT)⟩ else noP
theorem nQ (n:Nat):rdX n<RN:=by
 unfold rdX
 split
 ·exact nu _ _
 ·exact tt _
theorem K7:noP.ok:=⟨by decide,by decide,by decide,by decide⟩
theorem cz (n:Nat):(dqP n).ok:=by
 unfold dqP
 split
 ·exact ⟨nQ n,ep n,(show (1:Nat)<RN by decide),bI (nQ n) (ep n)⟩
 ·exact K7
theorem pW (p:P4) (b:Bool):flat (.tuple #[qv p,.bool b])=true:=rfl
theorem GR (r:Nat) (t:Prop) [Decidable t]:(!(((r % 2:Nat):Int) == (if t then 1 else 0))) = !decide ((r % 2=1)↔t):=by
 generalize hx:r % 2=x
 have hx:x=0∨x=1:=by omega
 rcases hx with rfl | rfl <;> by_cases ht:t <;> simp [ht]
set_option maxHeartbeats 1000000 in
theorem nI (n:Nat) (h:n<RN) (w:World):Calls Tryz.prog 45 #[bv n] w fun e w'=>e = .returned (.tuple #[qv (dqP n),.bool (a8 n)])∧Below w.heap.size w w':=by
 have hl:=Ft n h
 have ly:=ep n
 have fin : ∀ {X:Cx} (hX:X.Ok Tryz.prog) (hg:X.gl = []) {ps:List Prop} {v:Value} (run:sfun Tryz.prog X 80 Tryz.f45 (ag Tryz.f45) [bv n]=some (ps,v)) (hp : ∀ p ∈ ps,p) (hv:v = .tuple #[qv (dqP n),.bool (a8 n)]),Calls Tryz.prog 45 #[bv n] w fun e w'=>e = .returned (.tuple #[qv (dqP n),.bool (a8 n)])∧Below w.heap.size w w':=by
  intro X hX hg ps v run hp hv
  subst hv
  exact aq hX mixed Tryz.func45 (by kernel_rfl) run hp (by simp [aB]) (.inl (pW _ _)) w hg
 have bad:a8 n=false→(Value.tuple #[qv noP,.bool false]) = .tuple #[qv (dqP n),.bool (a8 n)]:=fun hk=>by
  unfold dqP;rw [hk,if_neg Bool.false_ne_true]
 have IL:IsB (gx n):=by rw [hl];exact aJ _
 have ebn:ai (gx n)=n % TT:=by rw [hl,ao ly]
 have ey:dyV n=nv (n % TT):=by unfold dyV;rw [ebn]
 have lyy:=bI ly ly
 have eyy:dJ n=nv (rfm (n % TT) (n % TT)):=by unfold dJ;rw [ey,vWM ly ly]
 have lD:rfm DN' (rfm (n % TT) (n % TT))<RN:=bI dd lyy
 have lU:rfa (rfm DN' (rfm (n % TT) (n % TT))) 1<RN:=bE lD (by decide)
 have eu:duV n=nv (rfa (rfm DN' (rfm (n % TT) (n % TT))) 1):=by unfold duV;rw [eyy,vWM dd lyy,vWA lD (by decide)]
 have lI:=ou lU
 have lS:rfs (rfm (n % TT) (n % TT)) 1<RN:=bT _ lyy
 have es:dsV n=nv (sxR (n % TT)):=by unfold dsV;rw [eyy,eu,vWS lyy (by decide),vWI lU,vWM lS lI];rfl
 have lsx:sxR (n % TT)<RN:=bI lS lI
 have ew:bg (dsV n)=sxR (n % TT):=by rw [es,aY lsx]
 have er:drN n=rtN n:=by unfold drN rtN;rw [ew];exact BL (yx ly)
 have lr:rtN n<RN:=Nat.lt_trans (sN n) mh
 have i1:IW (dyV n) (dyV n):=by rw [ey];exact iw ly ly
 have i2:IW (dJ n) (nv 1):=by rw [eyy];exact iw lyy (by decide)
 have i3:IW (nv DN') (dJ n):=by rw [eyy];exact iw dd lyy
 have i4:IW (WM (nv DN') (dJ n)) (nv 1):=by rw [eyy,vWM dd lyy];exact iw lD (by decide)
 have i5:IsW (duV n):=by rw [eu];exact fl lU
 have i6:IW (WS (dJ n) (nv 1)) (WI (duV n)):=by rw [eyy,eu,vWS lyy (by decide),vWI lU];exact iw lS lI
 have i7:IsW (dsV n):=by rw [es];exact fl lsx
 have i8:IW (nv (drN n)) (dyV n):=by rw [er,ey];exact iw lr ly
 have hok:=oq n
 have hnok:r9 n = !decide (rtN n*rtN n % pp=sxN (n % TT) % pp):=by unfold r9;rw [er,ew,yx ly]
 have hzer:uQ n=decide (rtN n=0):=by unfold uQ;rw [er];exact Lv _ 0 lr (by decide)
 have hodd:=LI h
 have hneq:vz n = !decide ((rtN n % 2=1)↔TT≤n):=by
  unfold vz
  rw [er,yZ,hodd]
  exact GR (rtN n) (TT≤n)
 by_cases hc:n % TT<pp
 ·have c1:ncQ n=false:=by unfold ncQ;rw [ebn];simp [hc]
  by_cases hs:rtN n*rtN n % pp=sxN (n % TT) % pp
  ·have e1:r9 n=false:=by rw [hnok];simp [hs]
   have hz0:eJ n=0↔rtN n=0:=by rw [tC hs];exact GJ (sN n)
   by_cases hz:rtN n=0
   ·have z1:uQ n=true:=by rw [hzer];simp [hz]
    by_cases ht:TT≤n
    ·have o1:(odQ n == 1)=true:=by rw [hodd,if_pos ht];rfl
     have hk:a8 n=false:=by
      cases hq:a8 n
      ·rfl
      ·exact absurd ⟨ht,hz0.2 hz⟩ (hok.1 hq).2.2
     exact fin (Cx.tell_ok qL _) rfl (OQ n) (al IL (al c1 (al IL (al i1 (al i2 (al i3 (al i4 (al i5 (al i6 (al i7 (al e1 (al z1 (al o1 al0))))))))))))) (bad hk)
    ·have o1:(odQ n == 1)=false:=by rw [hodd,if_neg ht];rfl
     have hm:(rtN n % 2=1)↔TT≤n:=⟨fun e=>by rw [hz] at e;exact absurd e (by decide),fun e=>absurd e ht⟩
     have n1:vz n=false:=by rw [hneq];simp [hm]
     have hk:a8 n=true:=hok.2 ⟨hc,iA.2 hs,fun e=>ht e.1⟩
     refine fin (Cx.tell_ok qL _) rfl (ME n) (al IL (al c1 (al IL (al i1 (al i2 (al i3 (al i4 (al i5 (al i6 (al i7 (al e1 (al z1 (al o1 (al n1 (al i8 al0))))))))))))))) ?_
     unfold dqP
     rw [hk,if_pos rfl,ey,er,ebn,aY lr,aY ly,uM hs hm]
   ·have z1:uQ n=false:=by rw [hzer];simp [hz]
    have hk:a8 n=true:=hok.2 ⟨hc,iA.2 hs,fun e=>hz (hz0.1 e.2)⟩
    by_cases hm:(rtN n % 2=1)↔TT≤n
    ·have n1:vz n=false:=by rw [hneq];simp [hm]
     refine fin (Cx.tell_ok qL _) rfl (NF n) (al IL (al c1 (al IL (al i1 (al i2 (al i3 (al i4 (al i5 (al i6 (al i7 (al e1 (al z1 (al n1 (al i8 al0)))))))))))))) ?_
     unfold dqP
     rw [hk,if_pos rfl,ey,er,ebn,aY lr,aY ly,uM hs hm]
    ·have n1:vz n=true:=by rw [hneq,decide_eq_false hm];rfl
     have lm:rfs 0 (rtN n)<RN:=bT _ (by decide)
     have j1:IW (nv 0) (nv (drN n)):=by rw [er];exact iw (by decide) lr
     have j2:IsW (WS (nv 0) (nv (drN n))):=by rw [er,vWS (by decide) lr];exact fl lm
     have ex:bg (WS (nv 0) (nv (drN n))) % pp=rdX n:=by rw [er,vWS (by decide) lr,aY lm,AF hs hm hz]
     have j3:IW (nv (bg (WS (nv 0) (nv (drN n))) % pp)) (dyV n):=by rw [ex,ey];exact iw (nQ n) ly
     refine fin (Cx.tell_ok qL _) rfl (Mt n) (al IL (al c1 (al IL (al i1 (al i2 (al i3 (al i4 (al i5 (al i6 (al i7 (al e1 (al z1 (al n1 (al j1 (al j2 (al j3 al0)))))))))))))))) ?_
     unfold dqP
     rw [hk,if_pos rfl,ey,ex,ebn,aY (nQ n),aY ly]
  ·have e1:r9 n=true:=by rw [hnok,decide_eq_false hs];rfl
   have hk:a8 n=false:=by
    cases hq:a8 n
    ·rfl
    ·exact absurd (iA.1 (hok.1 hq).2.1) hs
   exact fin (Cx.tell_ok qL _) rfl (Ql n) (al IL (al c1 (al IL (al i1 (al i2 (al i3 (al i4 (al i5 (al i6 (al i7 (al e1 al0))))))))))) (bad hk)
 ·have c1:ncQ n=true:=by unfold ncQ;rw [ebn];simp [hc]
  have hk:a8 n=false:=by
   cases hq:a8 n
   ·rfl
   ·exact absurd (hok.1 hq).1 hc
  exact fin (Cx.tell_ok qL _) rfl (P8 n) (al IL (al c1 al0)) (bad hk)
def gRdec:List Value→Option (List Prop × Value)
 | [A]=>some ([IsB A],.tuple #[qv (dqP (ai A)),.bool (a8 (ai A))])
 | _=>none
theorem DV {X:Cx} (hX:X.Ok Tryz.prog):(X.pure 45 gRdec).Ok Tryz.prog:=by
 refine aA hX Tryz.func45 (by kernel_rfl) (by kernel_rfl) ?_
 intro args ps v ha hg hp
 unfold gRdec at hg
 split at hg
 ·rename_i A
  simp only [qG,qH] at hg
  obtain ⟨rfl,rfl⟩:=hg
  have hA:=hp _ (YJ.2 rfl)
  refine ⟨.inl (pW _ _),fun w => ?_⟩
  have h:=nI (ai A) (aT hA) w
  rw [← (show A=bv (ai A) from hA)] at h
  exact h
 ·simp at hg
def H3:Cx:=H2.pure 45 gRdec
theorem pg (p:PT):Rep (cP (dqP (enc p))) p:=by
 have h:=jP p
 have hk:=fV p
 have e:cP (dqP (enc p))=cP (rdP (enc p)):=by
  unfold dqP rdP
  rw [hk,if_pos rfl,if_pos rfl,yA]
  unfold cP atE
  simp only
  rw [di (nQ _) (ep _),nx]
 rw [e];exact h
end Go.Proofs.YtajehiidpecknaaGreatDoor
namespace Go.Proofs.YtajehiidpecknaaGreatDoor
open Go Go.RowKit
theorem My:GY<RN:=by decide
theorem ib2 {A B:Nat} : IsB (bv A)∧IsB (bv B):=⟨aJ _,aJ _⟩
structure Lt where
 D:Nat→P4
 K:Nat→Bool
 S:P4→P4→P4
 M:P4→P4
 O:Nat→P4→P4
 E:P4→Nat
def cDe (L:Lt):List Value→Option (List Prop × Value)
 | [A]=>some ([IsB A],.tuple #[qv (L.D (ai A)),.bool (L.K (ai A))])
 | _=>none
def cMi (L:Lt):List Value→Option (List Prop × Value)
 | [A]=>some ([IsQ A],qv (L.M (q4 A)))
 | _=>none
def cOf (L:Lt):List Value→Option (List Prop × Value)
 | [A,B]=>some ([IsB A∧IsQ B],qv (L.O (ai A) (q4 B)))
 | _=>none
def cEn (L:Lt):List Value→Option (List Prop × Value)
 | [A]=>some ([IsQ A],bv (L.E (q4 A)))
 | _=>none
def HL (L:Lt):Cx:=((((Cx.none.pure 48 (gRS L.S)).pure 50 (cMi L)).pure 47 (cEn L)).pure 49 (cOf L)).pure 45 (cDe L)
def L0:Lt:=⟨dqP,a8,aU,iB,dM,wqN⟩
theorem O0:cDe L0=gRdec:=rfl
theorem OH:cMi L0=gRmir:=rfl
theorem OZ:cOf L0=zA:=rfl
theorem OP:cEn L0=zu:=rfl
theorem cS0:gRS L0.S=gRsum:=rfl
theorem uR:(HL L0).Ok Tryz.prog:=by
 unfold HL
 rw [O0,OH,OZ,OP,cS0]
 exact DV (u9 (vH (tN (nB Cx.none_ok))))
theorem Hi (L:Lt)  : sfun Tryz.prog (HL L) 200 Tryz.f65 (ag Tryz.f65) []=some ([],bv 1):=by kernel_rfl
theorem yn   (w:World):Calls Tryz.prog 65 #[] w fun e w'=>e = .returned (bv 1)∧Below w.heap.size w w':=by
 exact aq uR mixed Tryz.func65 (by kernel_rfl) (Hi L0) (al0) rfl (.inl (aB _)) w
theorem El {X:Cx} (hX:X.Ok Tryz.prog):(X.pure 65 gZer).Ok Tryz.prog:=by
 refine aA hX Tryz.func65 (by kernel_rfl) (by kernel_rfl) ?_
 intro args ps v ha hg hp
 unfold gZer at hg
 split at hg
 ·simp only [qG,qH] at hg
  obtain ⟨rfl,rfl⟩:=hg
  exact ⟨.inl (aB _),fun w=>yn w⟩
 ·simp at hg
theorem IC (L:Lt)  : sfun Tryz.prog (HL L) 200 Tryz.f46 (ag Tryz.f46) []=some ([],bv GY):=by kernel_rfl
theorem zB   (w:World):Calls Tryz.prog 46 #[] w fun e w'=>e = .returned (bv GY)∧Below w.heap.size w w':=by
 exact aq uR mixed Tryz.func46 (by kernel_rfl) (IC L0) (al0) rfl (.inl (aB _)) w
theorem E1 {X:Cx} (hX:X.Ok Tryz.prog):(X.pure 46 Kp).Ok Tryz.prog:=by
 refine aA hX Tryz.func46 (by kernel_rfl) (by kernel_rfl) ?_
 intro args ps v ha hg hp
 unfold Kp at hg
 split at hg
 ·simp only [qG,qH] at hg
  obtain ⟨rfl,rfl⟩:=hg
  exact ⟨.inl (aB _),fun w=>zB w⟩
 ·simp at hg
theorem L0K:L0.K=a8:=rfl
theorem L0D:L0.D=dqP:=rfl
theorem kNo {a:Nat} (ha:a<RN) (h:a8 a=false):(!L0.K (ai (bv a)))=true:=by rw [L0K,ao ha,h];rfl
theorem Qc {a:Nat} (ha:a<RN) (h:a8 a=true):(!L0.K (ai (bv a)))=false:=by rw [L0K,ao ha,h];rfl
theorem tH (n:Nat) {p:P4} (h:p.ok):(dM n p).ok:=kF h n 256
theorem ri {n a:Nat} (hn:n<RN) (ha:a<RN) (hka:a8 a=true):wqN (dM n (dqP a))=wrN (dA n (rdP a)):=by
 obtain ⟨P,rfl,hP⟩:=ft ha hka
 rw [xX (tH n (cz _)) (gJ (cz _) (pg P) n hn)]
 exact (jJ (gC hP n hn)).symm
theorem dq0 {a:Nat} (ha:a<RN):L0.D (ai (bv a))=dqP a:=by rw [L0D,ao ha]
theorem EX (L:Lt) (n:Nat) (a:Nat):sfun Tryz.prog ((HL L).tell [(14,true)]) 200 Tryz.f30 (ag Tryz.f30) [bv n,bv a]=some ([IsB (bv a),(!L.K (ai (bv a)))=true],.tuple #[bv 0,.int .i64 2]):=by kernel_rfl
theorem Eb (L:Lt) (n:Nat) (a:Nat):sfun Tryz.prog ((HL L).tell [(14,false)]) 200 Tryz.f30 (ag Tryz.f30) [bv n,bv a]=some ([IsB (bv a),(!L.K (ai (bv a)))=false,IsB (bv n)∧IsQ (qv (L.D (ai (bv a)))),IsQ (qv (L.O (ai (bv n)) (q4 (qv (L.D (ai (bv a)))))))],.tuple #[bv (L.E (q4 (qv (L.O (ai (bv n)) (q4 (qv (L.D (ai (bv a))))))))),.int .i64 0]):=by kernel_rfl
theorem yD (n:Nat) (a:Nat) (hn:n<RN) (ha:a<RN) (w:World):Calls Tryz.prog 30 #[bv n,bv a] w fun e w'=>e = .returned (.tuple #[bv (fx n a),.int .i64 (rdE a)])∧Below w.heap.size w w':=by
 cases hka:a8 a
 ·rw [dw hka]
  unfold fx
  rw [hka,if_neg Bool.false_ne_true]
  exact aq (Cx.tell_ok uR _) mixed Tryz.func30 (by kernel_rfl) (EX L0 n a) (al (aJ _) (al (kNo ha hka) al0)) (by simp [aB]) (.inl (bz _ _)) w
 ·have r:=Eb L0 n a
  rw [dq0 ha,l6 (cz a),ao hn] at r
  have l:(L0.O n (dqP a)).ok:=tH n (cz a)
  rw [l6 l] at r
  have e:L0.E (L0.O n (dqP a))=wrN (dA n (rdP a)):=ri hn ha hka
  rw [e] at r
  rw [dr hka]
  unfold fx
  rw [hka,if_pos rfl]
  exact aq (Cx.tell_ok uR _) mixed Tryz.func30 (by kernel_rfl) r (al (aJ _) (al (Qc ha hka) (al ⟨aJ _,iF (cz a)⟩ (al (iF l) al0)))) (by simp [aB]) (.inl (bz _ _)) w
theorem Bp {X:Cx} (hX:X.Ok Tryz.prog):(X.pure 30 gPml).Ok Tryz.prog:=by
 refine aA hX Tryz.func30 (by kernel_rfl) (by kernel_rfl) ?_
 intro args ps v ha hg hp
 unfold gPml at hg
 split at hg
 ·rename_i A B
  simp only [qG,qH] at hg
  obtain ⟨rfl,rfl⟩:=hg
  obtain ⟨hA,hB⟩:=hp _ (YJ.2 rfl)
  refine ⟨.inl (bz _ _),fun w => ?_⟩
  have h:=yD (ai A) (ai B) (aT hA) (aT hB) w
  rw [← (show A=bv (ai A) from hA),← (show B=bv (ai B) from hB)] at h
  exact h
 ·simp at hg
def HL2 (L:Lt):Cx:=(HL L).pure 46 Kp
theorem KG:(HL2 L0).Ok Tryz.prog:=E1 uR
theorem Hs (L:Lt) (n:Nat):sfun Tryz.prog (HL2 L) 200 Tryz.f28 (ag Tryz.f28) [bv n]=some ([IsB (bv GY),IsB (bv n)∧IsQ (qv (L.D (ai (bv GY)))),IsQ (qv (L.O (ai (bv n)) (q4 (qv (L.D (ai (bv GY)))))))],bv (L.E (q4 (qv (L.O (ai (bv n)) (q4 (qv (L.D (ai (bv GY)))))))))):=by kernel_rfl
theorem Bh {n:Nat} (hn:n<RN):wqN (dM n (dqP GY))=sG n:=by
 have h:=ri (a:=enc BP) hn (wN BP) (fV BP)
 have h2:=jJ (gC (jP BP) n hn)
 rw [D5] at h h2
 rw [h,h2,mE n hn]
theorem Fy (n:Nat) (hn:n<RN) (w:World):Calls Tryz.prog 28 #[bv n] w fun e w'=>e = .returned (bv (sG n))∧Below w.heap.size w w':=by
 have r:=Hs L0 n
 rw [dq0 My,l6 (cz GY),ao hn] at r
 have l:(L0.O n (dqP GY)).ok:=tH n (cz GY)
 rw [l6 l] at r
 have e:L0.E (L0.O n (dqP GY))=sG n:=Bh hn
 rw [e] at r
 exact aq KG mixed Tryz.func28 (by kernel_rfl) r (al (aJ _) (al ⟨aJ _,iF (cz GY)⟩ (al (iF l) al0))) (by simp [aB]) (.inl (aB _)) w
def cMl (f g:Nat→Nat→Nat) (e:Nat→Int):List Value→Option (List Prop × Value)
 | [A,B]=>some ([IsB A∧IsB B],.tuple #[bv (f (ai A) (ai B)),.int .i64 (e (ai B))])
 | _=>none
def HM (f g:Nat→Nat→Nat) (e:Nat→Int):Cx:=Cx.none.pure 30 (cMl f g e)
theorem OO:cMl fx fx rdE=gPml:=rfl
theorem Nf:(HM fx fx rdE).Ok Tryz.prog:=by
 unfold HM
 rw [OO]
 exact Bp Cx.none_ok
theorem Ik (f g:Nat→Nat→Nat) (e:Nat→Int) (a:Nat):sfun Tryz.prog (HM f g e) 100 Tryz.f38 (ag Tryz.f38) [bv a]=some ([IsB (bv 8)∧IsB (bv a)],.tuple #[bv (f (ai (bv 8)) (ai (bv a))),.int .i64 (e (ai (bv a)))]):=by kernel_rfl
theorem zS {a:Nat} (ha:a<RN):fx 8 a=iq a:=by
 cases hka:a8 a
 ·unfold fx iq
  rw [hka,if_neg Bool.false_ne_true,if_neg Bool.false_ne_true]
 ·obtain ⟨P,rfl,_⟩:=ft ha hka
  rw [jd 8 (by decide),rO]
theorem yY (a:Nat) (ha:a<RN) (w:World):Calls Tryz.prog 38 #[bv a] w fun e w'=>e = .returned (.tuple #[bv (iq a),.int .i64 (rdE a)])∧Below w.heap.size w w':=by
 have r:=Ik fx fx rdE a
 rw [ao (n:=8) (by decide),ao ha,zS ha] at r
 exact aq Nf mixed Tryz.func38 (by kernel_rfl) r (al ib2 al0) (by simp [aB]) (.inl (bz _ _)) w
theorem CN {X:Cx} (hX:X.Ok Tryz.prog):(X.pure 38 Au).Ok Tryz.prog:=by
 refine aA hX Tryz.func38 (by kernel_rfl) (by kernel_rfl) ?_
 intro args ps v ha hg hp
 unfold Au at hg
 split at hg
 ·rename_i A
  simp only [qG,qH] at hg
  obtain ⟨rfl,rfl⟩:=hg
  have hA:=hp _ (YJ.2 rfl)
  refine ⟨.inl (bz _ _),fun w => ?_⟩
  have h:=yY (ai A) (aT hA) w
  rw [← (show A=bv (ai A) from hA)] at h
  exact h
 ·simp at hg
def cCl (f:Nat→Nat) (e:Nat→Int):List Value→Option (List Prop × Value)
 | [A]=>some ([IsB A],.tuple #[bv (f (ai A)),.int .i64 (e (ai A))])
 | _=>none
def HN (f:Nat→Nat) (e:Nat→Int):Cx:=(Cx.none.pure 38 (cCl f e)).pure 65 gZer
theorem OR:cCl iq rdE=Au:=rfl
theorem Jh:(HN iq rdE).Ok Tryz.prog:=by
 unfold HN
 rw [OR]
 exact El (CN Cx.none_ok)
theorem E8 (f:Nat→Nat) (e:Nat→Int) (a:Nat):sfun Tryz.prog ((HN f e).tell [(12,false)]) 100 Tryz.f44 (ag Tryz.f44) [bv a]=some ([IsB (bv a),(e (ai (bv a)) == 0)=false],.tuple #[.bool false,.int .i64 (e (ai (bv a)))]):=by kernel_rfl
theorem Ci (f:Nat→Nat) (e:Nat→Int) (a:Nat):sfun Tryz.prog ((HN f e).tell [(12,true)]) 100 Tryz.f44 (ag Tryz.f44) [bv a]=some ([IsB (bv a),(e (ai (bv a)) == 0)=true],.tuple #[.bool (eqB (bl (f (ai (bv a)))).toArray (bl 1).toArray 32),.int .i64 (e (ai (bv a)))]):=by kernel_rfl
theorem GH (a:Nat) (ha:a<RN) (w:World):Calls Tryz.prog 44 #[bv a] w fun e w'=>e = .returned (.tuple #[.bool (xp a),.int .i64 (rdE a)])∧Below w.heap.size w w':=by
 cases hk:a8 a
 ·have r:=E8 iq rdE a
  rw [ao ha,dw hk] at r
  rw [dw hk]
  unfold xp
  rw [hk,Bool.false_and]
  exact aq (Cx.tell_ok Jh _) mixed Tryz.func44 (by kernel_rfl) r (al (aJ _) (al rfl al0)) (by simp [aB]) (.inl (jq _ _)) w
 ·have r:=Ci iq rdE a
  rw [ao ha,dr hk,xV _ 1 (su a) (by decide)] at r
  rw [dr hk]
  unfold xp
  rw [hk,Bool.true_and]
  exact aq (Cx.tell_ok Jh _) mixed Tryz.func44 (by kernel_rfl) r (al (aJ _) (al rfl al0)) (by simp [aB]) (.inl (jq _ _)) w
end Go.Proofs.YtajehiidpecknaaGreatDoor
