/- The curve's reference: Decode as a contract. -/
import Derived.Test.YtkhjnjlinfbfoaaGreatDoorPoiTA
import Derived.Test.YtkhjnjlinfbfoaaGreatDoorPoiJ
set_option linter.unusedSimpArgs false
set_option linter.unusedVariables false
namespace Go.Proofs.YtkhjnjlinfbfoaaGreatDoor
open Go Go.RowKit
def lowQ (n:Nat):Value := .agg ((bl n).take 31 ++ [Value.int .u8 (bits .and .u8 (by8 n 31) 127)]).toArray
def odQ (n:Nat):Int:=Int.fdiv (by8 n 31) (2 ^ 7)
def dyV (n:Nat):Value:=nv (bnum (lowQ n))
def dyyV (n:Nat):Value:=WM (dyV n) (dyV n)
def duV (n:Nat):Value:=WA (WM (nv DN') (dyyV n)) (nv 1)
def dsV (n:Nat):Value:=WM (WS (dyyV n) (nv 1)) (WI (duV n))
def drN (n:Nat):Nat:=rt (wnum (dsV n))
def nokQ (n:Nat):Bool := !decide (drN n*drN n % pp=wnum (dsV n) % pp)
def ncQ (n:Nat):Bool := !decide (bnum (lowQ n)<pp)
def zerQ (n:Nat):Bool:=eqB (nl (drN n)).toArray (nl 0).toArray 4
def neqQ (n:Nat):Bool := !(parQ (drN n) == odQ n)
theorem dc_a (n:Nat):sfun Tryz.prog (H2.tell [(18,true)]) 80 Tryz.f17 (bodyOf Tryz.f17) [bv n]=some ([IsB (lowQ n),ncQ n=true],.tuple #[qv noP,.bool false]):=by kernel_rfl
theorem dc_b (n:Nat):sfun Tryz.prog (H2.tell [(18,false),(40,true)]) 80 Tryz.f17 (bodyOf Tryz.f17) [bv n]=some ([IsB (lowQ n),ncQ n=false,IsB (lowQ n),IW (dyV n) (dyV n),IW (dyyV n) (nv 1),IW (nv DN') (dyyV n),IW (WM (nv DN') (dyyV n)) (nv 1),IsW (duV n),IW (WS (dyyV n) (nv 1)) (WI (duV n)),IsW (dsV n),nokQ n=true],.tuple #[qv noP,.bool false]):=by kernel_rfl
theorem dc_c (n:Nat):sfun Tryz.prog (H2.tell [(18,false),(40,false),(44,true),(47,true)]) 80 Tryz.f17 (bodyOf Tryz.f17) [bv n]=some ([IsB (lowQ n),ncQ n=false,IsB (lowQ n),IW (dyV n) (dyV n),IW (dyyV n) (nv 1),IW (nv DN') (dyyV n),IW (WM (nv DN') (dyyV n)) (nv 1),IsW (duV n),IW (WS (dyyV n) (nv 1)) (WI (duV n)),IsW (dsV n),nokQ n=false,zerQ n=true,(odQ n == 1)=true],.tuple #[qv noP,.bool false]):=by kernel_rfl
theorem dc_d1 (n:Nat):sfun Tryz.prog (H2.tell [(18,false),(40,false),(44,true),(47,false),(55,false)]) 80 Tryz.f17 (bodyOf Tryz.f17) [bv n]=some ([IsB (lowQ n),ncQ n=false,IsB (lowQ n),IW (dyV n) (dyV n),IW (dyyV n) (nv 1),IW (nv DN') (dyyV n),IW (WM (nv DN') (dyyV n)) (nv 1),IsW (duV n),IW (WS (dyyV n) (nv 1)) (WI (duV n)),IsW (dsV n),nokQ n=false,zerQ n=true,(odQ n == 1)=false,neqQ n=false,IW (nv (drN n)) (dyV n)],.tuple #[qv ⟨drN n,bnum (lowQ n),1,rfm (wnum (nv (drN n))) (wnum (dyV n))⟩,.bool true]):=by kernel_rfl
theorem dc_d3 (n:Nat):sfun Tryz.prog (H2.tell [(18,false),(40,false),(44,false),(55,false)]) 80 Tryz.f17 (bodyOf Tryz.f17) [bv n]=some ([IsB (lowQ n),ncQ n=false,IsB (lowQ n),IW (dyV n) (dyV n),IW (dyyV n) (nv 1),IW (nv DN') (dyyV n),IW (WM (nv DN') (dyyV n)) (nv 1),IsW (duV n),IW (WS (dyyV n) (nv 1)) (WI (duV n)),IsW (dsV n),nokQ n=false,zerQ n=false,neqQ n=false,IW (nv (drN n)) (dyV n)],.tuple #[qv ⟨drN n,bnum (lowQ n),1,rfm (wnum (nv (drN n))) (wnum (dyV n))⟩,.bool true]):=by kernel_rfl
theorem dc_d2 (n:Nat):sfun Tryz.prog (H2.tell [(18,false),(40,false),(44,false),(55,true)]) 80 Tryz.f17 (bodyOf Tryz.f17) [bv n]=some ([IsB (lowQ n),ncQ n=false,IsB (lowQ n),IW (dyV n) (dyV n),IW (dyyV n) (nv 1),IW (nv DN') (dyyV n),IW (WM (nv DN') (dyyV n)) (nv 1),IsW (duV n),IW (WS (dyyV n) (nv 1)) (WI (duV n)),IsW (dsV n),nokQ n=false,zerQ n=false,neqQ n=true,IW (nv 0) (nv (drN n)),IsW (WS (nv 0) (nv (drN n))),IW (nv (wnum (WS (nv 0) (nv (drN n))) % pp)) (dyV n)],.tuple #[qv ⟨wnum (WS (nv 0) (nv (drN n))) % pp,bnum (lowQ n),1,rfm (wnum (nv (wnum (WS (nv 0) (nv (drN n))) % pp))) (wnum (dyV n))⟩,.bool true]):=by kernel_rfl
theorem byte_127 : ∀ y:Fin 256,bits .and .u8 ((y.val:Nat):Int) 127=((y.val % 128:Nat):Int)∧Int.fdiv ((y.val:Nat):Int) (2 ^ 7)=((y.val/128:Nat):Int):=by decide +kernel
theorem lowQ_eq (n:Nat) (h:n<RN):lowQ n=bv (n % TT):=by
 have hb:n/256 ^ 31 % 256<256:=Nat.mod_lt _ (by decide)
 have o:=(byte_127 ⟨n/256 ^ 31 % 256,hb⟩).1
 have o2:=(byte_ops ⟨n/256 ^ 31 % 256,hb⟩).1
 simp only at o o2
 have e:bits .and .u8 (by8 n 31) 127=bits .andNot .u8 (by8 n 31) 128:=o.trans o2.symm
 rw [←lowV_eq n h]
 unfold lowQ lowV
 rw [e]
theorem odQ_eq {n:Nat} (h:n<RN):odQ n=if TT≤n then 1 else 0:=by
 have hb:n/256 ^ 31 % 256<256:=Nat.mod_lt _ (by decide)
 have o:=(byte_127 ⟨n/256 ^ 31 % 256,hb⟩).2
 simp only at o
 unfold odQ
 show Int.fdiv ((n/256 ^ 31 % 256:Nat):Int) (2 ^ 7)=_
 rw [o]
 have h2:n/256 ^ 31<256:=by rw [Nat.div_lt_iff_lt_mul (by decide)];exact Nat.lt_of_lt_of_le h (by decide)
 rw [Nat.mod_eq_of_lt h2,Nat.div_div_eq_div_mul,←tt_pow]
 have h4:RN=TT*2:=by decide
 by_cases ht:TT≤n
 ·rw [if_pos ht]
  have h1:n/TT<2:=by rw [Nat.div_lt_iff_lt_mul (by decide)];omega
  have h3:1≤n/TT:=by rw [Nat.le_div_iff_mul_le (by decide)];omega
  have:n/TT=1:=by omega
  rw [this];rfl
 ·rw [if_neg ht,Nat.div_eq_of_lt (by omega)];rfl
theorem eqB_nl (m n:Nat) (hm:m<RN) (hn:n<RN):eqB (nl m).toArray (nl n).toArray 4=decide (m=n):=by
 by_cases h:m=n
 ·subst h
  rw [decide_eq_true rfl]
  exact List.all_eq_true.2 fun i _=>by simp
 ·rw [decide_eq_false h]
  apply Bool.eq_false_iff.2
  intro hall
  apply h
  have e:eqB (nl m).toArray (nl n).toArray 4=((lw m 0 == lw n 0) && ((lw m 1 == lw n 1) && ((lw m 2 == lw n 2) && ((lw m 3 == lw n 3) && true)))):=rfl
  rw [e] at hall
  simp only [Bool.and_eq_true,beq_iff_eq] at hall
  obtain ⟨a0,a1,a2,a3,_⟩:=hall
  have e2:nl m=nl n:=by
   show [Value.int .u64 (lw m 0),.int .u64 (lw m 1),.int .u64 (lw m 2),.int .u64 (lw m 3)] = [.int .u64 (lw n 0),.int .u64 (lw n 1),.int .u64 (lw n 2),.int .u64 (lw n 3)]
   rw [a0,a1,a2,a3]
  rw [←wsum_nl hm,←wsum_nl hn,e2]
def sxR (y:Nat):Nat:=rfm (rfs (rfm y y) 1) (rfi (rfa (rfm DN' (rfm y y)) 1))
theorem sxR_mod {y:Nat} (hy:y<RN):sxR y % pp=sxN y % pp:=by
 apply cK_eq.1
 have l1:=rfm_lt hy hy
 have l2:rfm DN' (rfm y y)<RN:=rfm_lt dn_lt l1
 have l3:rfa (rfm DN' (rfm y y)) 1<RN:=rfa_lt l2 (by decide)
 unfold sxR
 rw [cK_sx,cK_rfm (rfs_lt _ l1) (rfi_lt l3),cK_rfs _ l1,cK_rfm hy hy,cK_rfi l3,cK_rfa l2 (by decide),cK_rfm dn_lt l1,cK_rfm hy hy,cK_one]
 rw [show cK DN'=DK from rfl,kadd_comm (DK*(cK y*cK y)) 1]
theorem rt_congr {a b:Nat} (h:a % pp=b % pp):rt a=rt b:=by
 have hx:rx a=rx b:=by unfold rx;rw [Nat.pow_mod,h,←Nat.pow_mod]
 unfold rt
 rw [hx,h]
def rtN (n:Nat):Nat:=rt (sxN (n % TT))
theorem rtN_lt (n:Nat):rtN n<pp:=rt_lt _
theorem rdRt_ev {n:Nat} (hs:rtN n*rtN n % pp=sxN (n % TT) % pp):rdRt n=ev (rtN n):=by
 unfold rdRt sqv;unfold rtN at *;rw [if_pos hs]
theorem ev_zero {m:Nat} (h:m<pp):ev m=0↔m=0:=by
 unfold ev
 split <;> omega
theorem rdX_same {n:Nat} (hs:rtN n*rtN n % pp=sxN (n % TT) % pp) (h:(rtN n % 2=1)↔TT≤n):rdX n=rtN n:=by
 have l:=rtN_lt n
 unfold rdX rdOdd
 rw [rdRt_ev hs]
 by_cases ht:TT≤n
 ·have h1:=h.2 ht
  rw [decide_eq_true ht,if_pos rfl]
  unfold ev
  rw [if_pos h1]
  unfold fsb
  rw [Nat.zero_add,Nat.mod_eq_of_lt (show pp - rtN n<pp by omega),show pp - (pp - rtN n)=rtN n by omega,Nat.mod_eq_of_lt l]
 ·have h1 : ¬ rtN n % 2=1:=fun e=>ht (h.1 e)
  rw [decide_eq_false ht,if_neg Bool.false_ne_true]
  unfold ev
  rw [if_neg h1]
theorem rdX_other {n:Nat} (hs:rtN n*rtN n % pp=sxN (n % TT) % pp) (h : ¬ ((rtN n % 2=1)↔TT≤n)) (hz : ¬ rtN n=0):rdX n=rfs 0 (rtN n) % pp:=by
 have l:=rtN_lt n
 have e:rfs 0 (rtN n) % pp=pp - rtN n:=by
  unfold rfs
  rw [fX_mod (rfs_div _ (by decide)),Nat.mod_eq_of_lt l,Nat.zero_add,Nat.mod_eq_of_lt (by omega)]
 rw [e]
 unfold rdX rdOdd
 rw [rdRt_ev hs]
 by_cases ht:TT≤n
 ·have h1 : ¬ rtN n % 2=1:=fun e=>h ⟨fun _=>ht,fun _=>e⟩
  rw [decide_eq_true ht,if_pos rfl]
  unfold ev
  rw [if_neg h1]
  unfold fsb
  rw [Nat.zero_add,Nat.mod_eq_of_lt l,Nat.mod_eq_of_lt (by omega)]
 ·have h1:rtN n % 2=1:=by
   by_cases h2:rtN n % 2=1
   ·exact h2
   ·exact absurd ⟨fun e=>absurd e h2,fun e=>absurd e ht⟩ h
  rw [decide_eq_false ht,if_neg Bool.false_ne_true]
  unfold ev
  rw [if_pos h1]
def dqP (n:Nat):P4:=if rdOk n then ⟨rdX n,n % TT,1,rfm (rdX n) (n % TT)⟩ else noP
theorem rdX_lt (n:Nat):rdX n<RN:=by
 unfold rdX
 split
 ·exact fsbR _ _
 ·exact sqv_lt _
theorem noP_ok:noP.ok:=⟨by decide,by decide,by decide,by decide⟩
theorem dqP_ok (n:Nat):(dqP n).ok:=by
 unfold dqP
 split
 ·exact ⟨rdX_lt n,modTT_lt n,(show (1:Nat)<RN by decide),rfm_lt (rdX_lt n) (modTT_lt n)⟩
 ·exact noP_ok
theorem flat_tupQ (p:P4) (b:Bool):flat (.tuple #[qv p,.bool b])=true:=rfl
theorem par_odd (r:Nat) (t:Prop) [Decidable t]:(!(((r % 2:Nat):Int) == (if t then 1 else 0))) = !decide ((r % 2=1)↔t):=by
 generalize hx:r % 2=x
 have hx:x=0∨x=1:=by omega
 rcases hx with rfl | rfl <;> by_cases ht:t <;> simp [ht]
set_option maxHeartbeats 1000000 in
theorem decode_any (n:Nat) (h:n<RN) (w:World):Calls Tryz.prog 17 #[bv n] w fun e w'=>e = .returned (.tuple #[qv (dqP n),.bool (rdOk n)])∧Below w.heap.size w w':=by
 have hl:=lowQ_eq n h
 have ly:=modTT_lt n
 have fin : ∀ {X:Cx} (hX:X.Ok Tryz.prog) (hg:X.gl = []) {ps:List Prop} {v:Value} (run:sfun Tryz.prog X 80 Tryz.f17 (bodyOf Tryz.f17) [bv n]=some (ps,v)) (hp : ∀ p ∈ ps,p) (hv:v = .tuple #[qv (dqP n),.bool (rdOk n)]),Calls Tryz.prog 17 #[bv n] w fun e w'=>e = .returned (.tuple #[qv (dqP n),.bool (rdOk n)])∧Below w.heap.size w w':=by
  intro X hX hg ps v run hp hv
  subst hv
  exact sfun_calls hX mixed Tryz.func17 (by kernel_rfl) run hp (by simp [flat_bv]) (.inl (flat_tupQ _ _)) w hg
 have bad:rdOk n=false→(Value.tuple #[qv noP,.bool false]) = .tuple #[qv (dqP n),.bool (rdOk n)]:=fun hk=>by
  unfold dqP;rw [hk,if_neg Bool.false_ne_true]
 have IL:IsB (lowQ n):=by rw [hl];exact isB_bv _
 have ebn:bnum (lowQ n)=n % TT:=by rw [hl,bnum_bv' ly]
 have ey:dyV n=nv (n % TT):=by unfold dyV;rw [ebn]
 have lyy:=rfm_lt ly ly
 have eyy:dyyV n=nv (rfm (n % TT) (n % TT)):=by unfold dyyV;rw [ey,vWM ly ly]
 have lD:rfm DN' (rfm (n % TT) (n % TT))<RN:=rfm_lt dn_lt lyy
 have lU:rfa (rfm DN' (rfm (n % TT) (n % TT))) 1<RN:=rfa_lt lD (by decide)
 have eu:duV n=nv (rfa (rfm DN' (rfm (n % TT) (n % TT))) 1):=by unfold duV;rw [eyy,vWM dn_lt lyy,vWA lD (by decide)]
 have lI:=rfi_lt lU
 have lS:rfs (rfm (n % TT) (n % TT)) 1<RN:=rfs_lt _ lyy
 have es:dsV n=nv (sxR (n % TT)):=by unfold dsV;rw [eyy,eu,vWS lyy (by decide),vWI lU,vWM lS lI];rfl
 have lsx:sxR (n % TT)<RN:=rfm_lt lS lI
 have ew:wnum (dsV n)=sxR (n % TT):=by rw [es,wnum_nv lsx]
 have er:drN n=rtN n:=by unfold drN rtN;rw [ew];exact rt_congr (sxR_mod ly)
 have lr:rtN n<RN:=Nat.lt_trans (rtN_lt n) pp_lt
 have i1:IW (dyV n) (dyV n):=by rw [ey];exact iw ly ly
 have i2:IW (dyyV n) (nv 1):=by rw [eyy];exact iw lyy (by decide)
 have i3:IW (nv DN') (dyyV n):=by rw [eyy];exact iw dn_lt lyy
 have i4:IW (WM (nv DN') (dyyV n)) (nv 1):=by rw [eyy,vWM dn_lt lyy];exact iw lD (by decide)
 have i5:IsW (duV n):=by rw [eu];exact isW_nv lU
 have i6:IW (WS (dyyV n) (nv 1)) (WI (duV n)):=by rw [eyy,eu,vWS lyy (by decide),vWI lU];exact iw lS lI
 have i7:IsW (dsV n):=by rw [es];exact isW_nv lsx
 have i8:IW (nv (drN n)) (dyV n):=by rw [er,ey];exact iw lr ly
 have hok:=rdOk_iff n
 have hnok:nokQ n = !decide (rtN n*rtN n % pp=sxN (n % TT) % pp):=by unfold nokQ;rw [er,ew,sxR_mod ly]
 have hzer:zerQ n=decide (rtN n=0):=by unfold zerQ;rw [er];exact eqB_nl _ 0 lr (by decide)
 have hodd:=odQ_eq h
 have hneq:neqQ n = !decide ((rtN n % 2=1)↔TT≤n):=by
  unfold neqQ
  rw [er,parQ_eq,hodd]
  exact par_odd (rtN n) (TT≤n)
 by_cases hc:n % TT<pp
 ·have c1:ncQ n=false:=by unfold ncQ;rw [ebn];simp [hc]
  by_cases hs:rtN n*rtN n % pp=sxN (n % TT) % pp
  ·have e1:nokQ n=false:=by rw [hnok];simp [hs]
   have hz0:rdRt n=0↔rtN n=0:=by rw [rdRt_ev hs];exact ev_zero (rtN_lt n)
   by_cases hz:rtN n=0
   ·have z1:zerQ n=true:=by rw [hzer];simp [hz]
    by_cases ht:TT≤n
    ·have o1:(odQ n == 1)=true:=by rw [hodd,if_pos ht];rfl
     have hk:rdOk n=false:=by
      cases hq:rdOk n
      ·rfl
      ·exact absurd ⟨ht,hz0.2 hz⟩ (hok.1 hq).2.2
     exact fin (Cx.tell_ok H2_ok _) rfl (dc_c n) (al IL (al c1 (al IL (al i1 (al i2 (al i3 (al i4 (al i5 (al i6 (al i7 (al e1 (al z1 (al o1 al0))))))))))))) (bad hk)
    ·have o1:(odQ n == 1)=false:=by rw [hodd,if_neg ht];rfl
     have hm:(rtN n % 2=1)↔TT≤n:=⟨fun e=>by rw [hz] at e;exact absurd e (by decide),fun e=>absurd e ht⟩
     have n1:neqQ n=false:=by rw [hneq];simp [hm]
     have hk:rdOk n=true:=hok.2 ⟨hc,sqe_zero.2 hs,fun e=>ht e.1⟩
     refine fin (Cx.tell_ok H2_ok _) rfl (dc_d1 n) (al IL (al c1 (al IL (al i1 (al i2 (al i3 (al i4 (al i5 (al i6 (al i7 (al e1 (al z1 (al o1 (al n1 (al i8 al0))))))))))))))) ?_
     unfold dqP
     rw [hk,if_pos rfl,ey,er,ebn,wnum_nv lr,wnum_nv ly,rdX_same hs hm]
   ·have z1:zerQ n=false:=by rw [hzer];simp [hz]
    have hk:rdOk n=true:=hok.2 ⟨hc,sqe_zero.2 hs,fun e=>hz (hz0.1 e.2)⟩
    by_cases hm:(rtN n % 2=1)↔TT≤n
    ·have n1:neqQ n=false:=by rw [hneq];simp [hm]
     refine fin (Cx.tell_ok H2_ok _) rfl (dc_d3 n) (al IL (al c1 (al IL (al i1 (al i2 (al i3 (al i4 (al i5 (al i6 (al i7 (al e1 (al z1 (al n1 (al i8 al0)))))))))))))) ?_
     unfold dqP
     rw [hk,if_pos rfl,ey,er,ebn,wnum_nv lr,wnum_nv ly,rdX_same hs hm]
    ·have n1:neqQ n=true:=by rw [hneq,decide_eq_false hm];rfl
     have lm:rfs 0 (rtN n)<RN:=rfs_lt _ (by decide)
     have j1:IW (nv 0) (nv (drN n)):=by rw [er];exact iw (by decide) lr
     have j2:IsW (WS (nv 0) (nv (drN n))):=by rw [er,vWS (by decide) lr];exact isW_nv lm
     have ex:wnum (WS (nv 0) (nv (drN n))) % pp=rdX n:=by rw [er,vWS (by decide) lr,wnum_nv lm,rdX_other hs hm hz]
     have j3:IW (nv (wnum (WS (nv 0) (nv (drN n))) % pp)) (dyV n):=by rw [ex,ey];exact iw (rdX_lt n) ly
     refine fin (Cx.tell_ok H2_ok _) rfl (dc_d2 n) (al IL (al c1 (al IL (al i1 (al i2 (al i3 (al i4 (al i5 (al i6 (al i7 (al e1 (al z1 (al n1 (al j1 (al j2 (al j3 al0)))))))))))))))) ?_
     unfold dqP
     rw [hk,if_pos rfl,ey,ex,ebn,wnum_nv (rdX_lt n),wnum_nv ly]
  ·have e1:nokQ n=true:=by rw [hnok,decide_eq_false hs];rfl
   have hk:rdOk n=false:=by
    cases hq:rdOk n
    ·rfl
    ·exact absurd (sqe_zero.1 (hok.1 hq).2.1) hs
   exact fin (Cx.tell_ok H2_ok _) rfl (dc_b n) (al IL (al c1 (al IL (al i1 (al i2 (al i3 (al i4 (al i5 (al i6 (al i7 (al e1 al0))))))))))) (bad hk)
 ·have c1:ncQ n=true:=by unfold ncQ;rw [ebn];simp [hc]
  have hk:rdOk n=false:=by
   cases hq:rdOk n
   ·rfl
   ·exact absurd (hok.1 hq).1 hc
  exact fin (Cx.tell_ok H2_ok _) rfl (dc_a n) (al IL (al c1 al0)) (bad hk)
def gRdec:List Value→Option (List Prop × Value)
 | [A]=>some ([IsB A],.tuple #[qv (dqP (bnum A)),.bool (rdOk (bnum A))])
 | _=>none
theorem gRdec_ok {X:Cx} (hX:X.Ok Tryz.prog):(X.pure 17 gRdec).Ok Tryz.prog:=by
 refine gBody_ok hX Tryz.func17 (by kernel_rfl) (by kernel_rfl) ?_
 intro args ps v ha hg hp
 unfold gRdec at hg
 split at hg
 ·rename_i A
  simp only [qG,qH] at hg
  obtain ⟨rfl,rfl⟩:=hg
  have hA:=hp _ (List.mem_singleton.2 rfl)
  refine ⟨.inl (flat_tupQ _ _),fun w => ?_⟩
  have h:=decode_any (bnum A) (bnum_lt hA) w
  rw [← (show A=bv (bnum A) from hA)] at h
  exact h
 ·simp at hg
def H3:Cx:=H2.pure 17 gRdec
theorem rep_dq (p:PT):Rep (cP (dqP (enc p))) p:=by
 have h:=rd_rep p
 have hk:=rd_enc p
 have e:cP (dqP (enc p))=cP (rdP (enc p)):=by
  unfold dqP rdP
  rw [hk,if_pos rfl,if_pos rfl,cP_at]
  unfold cP atE
  simp only
  rw [cK_rfm (rdX_lt _) (modTT_lt _),cK_one]
 rw [e];exact h
end Go.Proofs.YtkhjnjlinfbfoaaGreatDoor
/- The curve's reference: what it exports, as contracts: it answers just as package point does. -/
namespace Go.Proofs.YtkhjnjlinfbfoaaGreatDoor
open Go Go.RowKit
theorem GY_lt:GY<RN:=by decide
theorem ib2 {A B:Nat} : IsB (bv A)∧IsB (bv B):=⟨isB_bv _,isB_bv _⟩
structure Lt where
 D:Nat→P4
 K:Nat→Bool
 S:P4→P4→P4
 M:P4→P4
 O:Nat→P4→P4
 E:P4→Nat
def cDe (L:Lt):List Value→Option (List Prop × Value)
 | [A]=>some ([IsB A],.tuple #[qv (L.D (bnum A)),.bool (L.K (bnum A))])
 | _=>none
def cMi (L:Lt):List Value→Option (List Prop × Value)
 | [A]=>some ([IsQ A],qv (L.M (q4 A)))
 | _=>none
def cOf (L:Lt):List Value→Option (List Prop × Value)
 | [A,B]=>some ([IsB A∧IsQ B],qv (L.O (bnum A) (q4 B)))
 | _=>none
def cEn (L:Lt):List Value→Option (List Prop × Value)
 | [A]=>some ([IsQ A],bv (L.E (q4 A)))
 | _=>none
def HL (L:Lt):Cx:=((((Cx.none.pure 21 (gRS L.S)).pure 23 (cMi L)).pure 20 (cEn L)).pure 22 (cOf L)).pure 17 (cDe L)
def L0:Lt:=⟨dqP,rdOk,rsumN,rmirN,oftN,wqN⟩
theorem cDe0:cDe L0=gRdec:=rfl
theorem cMi0:cMi L0=gRmir:=rfl
theorem cOf0:cOf L0=gRoft:=rfl
theorem cEn0:cEn L0=gRenc:=rfl
theorem cS0:gRS L0.S=gRsum:=rfl
theorem HL_ok:(HL L0).Ok Tryz.prog:=by
 unfold HL
 rw [cDe0,cMi0,cOf0,cEn0,cS0]
 exact gRdec_ok (gRoft_ok (gRenc_ok (gRmir_ok (gRsum_ok Cx.none_ok))))
theorem rzr_run (L:Lt)  : sfun Tryz.prog (HL L) 200 Tryz.f41 (bodyOf Tryz.f41) []=some ([],bv 1):=by kernel_rfl
theorem Rzr_any   (w:World):Calls Tryz.prog 41 #[] w fun e w'=>e = .returned (bv 1)∧Below w.heap.size w w':=by
 exact sfun_calls HL_ok mixed Tryz.func41 (by kernel_rfl) (rzr_run L0) (al0) rfl (.inl (flat_bv _)) w
theorem rgZer_ok {X:Cx} (hX:X.Ok Tryz.prog):(X.pure 41 gZer).Ok Tryz.prog:=by
 refine gBody_ok hX Tryz.func41 (by kernel_rfl) (by kernel_rfl) ?_
 intro args ps v ha hg hp
 unfold gZer at hg
 split at hg
 ·simp only [qG,qH] at hg
  obtain ⟨rfl,rfl⟩:=hg
  exact ⟨.inl (flat_bv _),fun w=>Rzr_any w⟩
 ·simp at hg
theorem rgn_run (L:Lt)  : sfun Tryz.prog (HL L) 200 Tryz.f18 (bodyOf Tryz.f18) []=some ([],bv GY):=by kernel_rfl
theorem Rgn_any   (w:World):Calls Tryz.prog 18 #[] w fun e w'=>e = .returned (bv GY)∧Below w.heap.size w w':=by
 exact sfun_calls HL_ok mixed Tryz.func18 (by kernel_rfl) (rgn_run L0) (al0) rfl (.inl (flat_bv _)) w
theorem rgGnr_ok {X:Cx} (hX:X.Ok Tryz.prog):(X.pure 18 gGnr).Ok Tryz.prog:=by
 refine gBody_ok hX Tryz.func18 (by kernel_rfl) (by kernel_rfl) ?_
 intro args ps v ha hg hp
 unfold gGnr at hg
 split at hg
 ·simp only [qG,qH] at hg
  obtain ⟨rfl,rfl⟩:=hg
  exact ⟨.inl (flat_bv _),fun w=>Rgn_any w⟩
 ·simp at hg
theorem L0K:L0.K=rdOk:=rfl
theorem L0D:L0.D=dqP:=rfl
theorem kNo {a:Nat} (ha:a<RN) (h:rdOk a=false):(!L0.K (bnum (bv a)))=true:=by rw [L0K,bnum_bv' ha,h];rfl
theorem kYes {a:Nat} (ha:a<RN) (h:rdOk a=true):(!L0.K (bnum (bv a)))=false:=by rw [L0K,bnum_bv' ha,h];rfl
theorem oftN_ok (n:Nat) {p:P4} (h:p.ok):(oftN n p).ok:=oR_ok h n 256
theorem oft_agree {n a:Nat} (hn:n<RN) (ha:a<RN) (hka:rdOk a=true):wqN (oftN n (dqP a))=wrN (timesN n (rdP a)):=by
 obtain ⟨P,rfl,hP⟩:=rd_point ha hka
 rw [wq_enc (oftN_ok n (dqP_ok _)) (rep_often (dqP_ok _) (rep_dq P) n hn)]
 exact (wr_enc (rep_times hP n hn)).symm
theorem dq0 {a:Nat} (ha:a<RN):L0.D (bnum (bv a))=dqP a:=by rw [L0D,bnum_bv' ha]
theorem rml_run1 (L:Lt) (n:Nat) (a:Nat):sfun Tryz.prog ((HL L).tell [(14,true)]) 200 Tryz.f79 (bodyOf Tryz.f79) [bv n,bv a]=some ([IsB (bv a),(!L.K (bnum (bv a)))=true],.tuple #[bv 0,.int .i64 2]):=by kernel_rfl
theorem rml_run0 (L:Lt) (n:Nat) (a:Nat):sfun Tryz.prog ((HL L).tell [(14,false)]) 200 Tryz.f79 (bodyOf Tryz.f79) [bv n,bv a]=some ([IsB (bv a),(!L.K (bnum (bv a)))=false,IsB (bv n)∧IsQ (qv (L.D (bnum (bv a)))),IsQ (qv (L.O (bnum (bv n)) (q4 (qv (L.D (bnum (bv a)))))))],.tuple #[bv (L.E (q4 (qv (L.O (bnum (bv n)) (q4 (qv (L.D (bnum (bv a))))))))),.int .i64 0]):=by kernel_rfl
theorem Rml_any (n:Nat) (a:Nat) (hn:n<RN) (ha:a<RN) (w:World):Calls Tryz.prog 79 #[bv n,bv a] w fun e w'=>e = .returned (.tuple #[bv (pmlN n a),.int .i64 (rdE a)])∧Below w.heap.size w w':=by
 cases hka:rdOk a
 ·rw [rdE_no hka]
  unfold pmlN
  rw [hka,if_neg Bool.false_ne_true]
  exact sfun_calls (Cx.tell_ok HL_ok _) mixed Tryz.func79 (by kernel_rfl) (rml_run1 L0 n a) (al (isB_bv _) (al (kNo ha hka) al0)) (by simp [flat_bv]) (.inl (flat_tup _ _)) w
 ·have r:=rml_run0 L0 n a
  rw [dq0 ha,q4_qv (dqP_ok a),bnum_bv' hn] at r
  have l:(L0.O n (dqP a)).ok:=oftN_ok n (dqP_ok a)
  rw [q4_qv l] at r
  have e:L0.E (L0.O n (dqP a))=wrN (timesN n (rdP a)):=oft_agree hn ha hka
  rw [e] at r
  rw [rdE_ok hka]
  unfold pmlN
  rw [hka,if_pos rfl]
  exact sfun_calls (Cx.tell_ok HL_ok _) mixed Tryz.func79 (by kernel_rfl) r (al (isB_bv _) (al (kYes ha hka) (al ⟨isB_bv _,isQ_qv (dqP_ok a)⟩ (al (isQ_qv l) al0)))) (by simp [flat_bv]) (.inl (flat_tup _ _)) w
theorem rgPml_ok {X:Cx} (hX:X.Ok Tryz.prog):(X.pure 79 gPml).Ok Tryz.prog:=by
 refine gBody_ok hX Tryz.func79 (by kernel_rfl) (by kernel_rfl) ?_
 intro args ps v ha hg hp
 unfold gPml at hg
 split at hg
 ·rename_i A B
  simp only [qG,qH] at hg
  obtain ⟨rfl,rfl⟩:=hg
  obtain ⟨hA,hB⟩:=hp _ (List.mem_singleton.2 rfl)
  refine ⟨.inl (flat_tup _ _),fun w => ?_⟩
  have h:=Rml_any (bnum A) (bnum B) (bnum_lt hA) (bnum_lt hB) w
  rw [← (show A=bv (bnum A) from hA),← (show B=bv (bnum B) from hB)] at h
  exact h
 ·simp at hg
def HL2 (L:Lt):Cx:=(HL L).pure 18 gGnr
theorem HL2_ok:(HL2 L0).Ok Tryz.prog:=rgGnr_ok HL_ok
theorem rbs_run (L:Lt) (n:Nat):sfun Tryz.prog (HL2 L) 200 Tryz.f25 (bodyOf Tryz.f25) [bv n]=some ([IsB (bv GY),IsB (bv n)∧IsQ (qv (L.D (bnum (bv GY)))),IsQ (qv (L.O (bnum (bv n)) (q4 (qv (L.D (bnum (bv GY)))))))],bv (L.E (q4 (qv (L.O (bnum (bv n)) (q4 (qv (L.D (bnum (bv GY)))))))))):=by kernel_rfl
theorem bas_agree {n:Nat} (hn:n<RN):wqN (oftN n (dqP GY))=basN n:=by
 have h:=oft_agree (a:=enc BP) hn (enc_lt BP) (rd_enc BP)
 have h2:=wr_enc (rep_times (rd_rep BP) n hn)
 rw [enc_BP] at h h2
 rw [h,h2,bas_enc n hn]
theorem Rbs_any (n:Nat) (hn:n<RN) (w:World):Calls Tryz.prog 25 #[bv n] w fun e w'=>e = .returned (bv (basN n))∧Below w.heap.size w w':=by
 have r:=rbs_run L0 n
 rw [dq0 GY_lt,q4_qv (dqP_ok GY),bnum_bv' hn] at r
 have l:(L0.O n (dqP GY)).ok:=oftN_ok n (dqP_ok GY)
 rw [q4_qv l] at r
 have e:L0.E (L0.O n (dqP GY))=basN n:=bas_agree hn
 rw [e] at r
 exact sfun_calls HL2_ok mixed Tryz.func25 (by kernel_rfl) r (al (isB_bv _) (al ⟨isB_bv _,isQ_qv (dqP_ok GY)⟩ (al (isQ_qv l) al0))) (by simp [flat_bv]) (.inl (flat_bv _)) w
def cMl (f g:Nat→Nat→Nat) (e:Nat→Int):List Value→Option (List Prop × Value)
 | [A,B]=>some ([IsB A∧IsB B],.tuple #[bv (f (bnum A) (bnum B)),.int .i64 (e (bnum B))])
 | _=>none
def HM (f g:Nat→Nat→Nat) (e:Nat→Int):Cx:=Cx.none.pure 79 (cMl f g e)
theorem cMl0:cMl pmlN pmlN rdE=gPml:=rfl
theorem HM_ok:(HM pmlN pmlN rdE).Ok Tryz.prog:=by
 unfold HM
 rw [cMl0]
 exact rgPml_ok Cx.none_ok
theorem rcl_run (f g:Nat→Nat→Nat) (e:Nat→Int) (a:Nat):sfun Tryz.prog (HM f g e) 100 Tryz.f40 (bodyOf Tryz.f40) [bv a]=some ([IsB (bv 8)∧IsB (bv a)],.tuple #[bv (f (bnum (bv 8)) (bnum (bv a))),.int .i64 (e (bnum (bv a)))]):=by kernel_rfl
theorem clr_agree {a:Nat} (ha:a<RN):pmlN 8 a=clrN a:=by
 cases hka:rdOk a
 ·unfold pmlN clrN
  rw [hka,if_neg Bool.false_ne_true,if_neg Bool.false_ne_true]
 ·obtain ⟨P,rfl,_⟩:=rd_point ha hka
  rw [mul_enc 8 (by decide),clr_enc]
theorem Rcl_any (a:Nat) (ha:a<RN) (w:World):Calls Tryz.prog 40 #[bv a] w fun e w'=>e = .returned (.tuple #[bv (clrN a),.int .i64 (rdE a)])∧Below w.heap.size w w':=by
 have r:=rcl_run pmlN pmlN rdE a
 rw [bnum_bv' (n:=8) (by decide),bnum_bv' ha,clr_agree ha] at r
 exact sfun_calls HM_ok mixed Tryz.func40 (by kernel_rfl) r (al ib2 al0) (by simp [flat_bv]) (.inl (flat_tup _ _)) w
theorem rgClr_ok {X:Cx} (hX:X.Ok Tryz.prog):(X.pure 40 gClr).Ok Tryz.prog:=by
 refine gBody_ok hX Tryz.func40 (by kernel_rfl) (by kernel_rfl) ?_
 intro args ps v ha hg hp
 unfold gClr at hg
 split at hg
 ·rename_i A
  simp only [qG,qH] at hg
  obtain ⟨rfl,rfl⟩:=hg
  have hA:=hp _ (List.mem_singleton.2 rfl)
  refine ⟨.inl (flat_tup _ _),fun w => ?_⟩
  have h:=Rcl_any (bnum A) (bnum_lt hA) w
  rw [← (show A=bv (bnum A) from hA)] at h
  exact h
 ·simp at hg
def cCl (f:Nat→Nat) (e:Nat→Int):List Value→Option (List Prop × Value)
 | [A]=>some ([IsB A],.tuple #[bv (f (bnum A)),.int .i64 (e (bnum A))])
 | _=>none
def HN (f:Nat→Nat) (e:Nat→Int):Cx:=(Cx.none.pure 40 (cCl f e)).pure 41 gZer
theorem cCl0:cCl clrN rdE=gClr:=rfl
theorem HN_ok:(HN clrN rdE).Ok Tryz.prog:=by
 unfold HN
 rw [cCl0]
 exact rgZer_ok (rgClr_ok Cx.none_ok)
theorem rsm_run1 (f:Nat→Nat) (e:Nat→Int) (a:Nat):sfun Tryz.prog ((HN f e).tell [(12,false)]) 100 Tryz.f15 (bodyOf Tryz.f15) [bv a]=some ([IsB (bv a),(e (bnum (bv a)) == 0)=false],.tuple #[.bool false,.int .i64 (e (bnum (bv a)))]):=by kernel_rfl
theorem rsm_run0 (f:Nat→Nat) (e:Nat→Int) (a:Nat):sfun Tryz.prog ((HN f e).tell [(12,true)]) 100 Tryz.f15 (bodyOf Tryz.f15) [bv a]=some ([IsB (bv a),(e (bnum (bv a)) == 0)=true],.tuple #[.bool (eqB (bl (f (bnum (bv a)))).toArray (bl 1).toArray 32),.int .i64 (e (bnum (bv a)))]):=by kernel_rfl
theorem Rsm_any (a:Nat) (ha:a<RN) (w:World):Calls Tryz.prog 15 #[bv a] w fun e w'=>e = .returned (.tuple #[.bool (smlB a),.int .i64 (rdE a)])∧Below w.heap.size w w':=by
 cases hk:rdOk a
 ·have r:=rsm_run1 clrN rdE a
  rw [bnum_bv' ha,rdE_no hk] at r
  rw [rdE_no hk]
  unfold smlB
  rw [hk,Bool.false_and]
  exact sfun_calls (Cx.tell_ok HN_ok _) mixed Tryz.func15 (by kernel_rfl) r (al (isB_bv _) (al rfl al0)) (by simp [flat_bv]) (.inl (flat_tupB _ _)) w
 ·have r:=rsm_run0 clrN rdE a
  rw [bnum_bv' ha,rdE_ok hk,eqB_bl _ 1 (clrN_lt a) (by decide)] at r
  rw [rdE_ok hk]
  unfold smlB
  rw [hk,Bool.true_and]
  exact sfun_calls (Cx.tell_ok HN_ok _) mixed Tryz.func15 (by kernel_rfl) r (al (isB_bv _) (al rfl al0)) (by simp [flat_bv]) (.inl (flat_tupB _ _)) w
end Go.Proofs.YtkhjnjlinfbfoaaGreatDoor
