/- Layer 6: the curve's points have order dividing 8 L; what is proved is verified: mathematics. -/
import Derived.Test.YtajehiidpecknaaGreatDoorPoiTC
set_option linter.unusedSimpArgs false
set_option linter.unusedVariables false
namespace Go.Proofs.YtajehiidpecknaaGreatDoor.Wi.Edd
open Go
theorem Ke:Prm 1224481:=pE 1106 (by decide) (by decide) (by decide +kernel)
theorem Kr:Prm 1257559732178653:=dd (q:=1224481) (R:=1027014492) (B:=28) 52 2 Ke (by decide +kernel)
theorem J2:Prm 4434155615661930479:=dd (q:=1257559732178653) (R:=3526) (B:=0) 64 2 Kr (by decide +kernel)
theorem Kt:Prm 172054593956031949258510691:=dd (q:=4434155615661930479) (R:=38802110) (B:=0) 90 2 J2 (by decide +kernel)
theorem Me:Prm 19757330305831588566944191468367130476339:=dd (q:=172054593956031949258510691) (R:=114831751082918) (B:=0) 136 2 Kt (by decide +kernel)
theorem KG:Prm 276602624281642239937218680557139826668747:=dd (q:=19757330305831588566944191468367130476339) (R:=14) (B:=0) 140 2 Me (by decide +kernel)
theorem FI:Prm LN:=dd (q:=276602624281642239937218680557139826668747) (R:=26163907866482859529727157400808004) (B:=0) 256 2 KG (by decide +kernel)
theorem K0:BP≠Pt.zero DK:=fun h=>by
 have:=congrArg enc h
 rw [Av,rX] at this
 exact absurd this (by decide)
theorem cB (m n:Nat) (p:PT):aP (m*n) p=aP m (aP n p):=Pt.smul_mul FK p n m
theorem uP (m n:Nat) (p:PT):aP (m+n) p=fG (aP m p) (aP n p):=Pt.smul_add FK p m n
theorem dE (n:Nat):aP n (Pt.zero DK)=Pt.zero DK:=Pt.smul_zero FK n
theorem vh {m:Nat} {p:PT} (h:aP m p=Pt.zero DK) (n:Nat):aP (n % m) p=aP n p:=by
 have e:n=n/m*m+n % m:=by rw [Nat.mul_comm];exact (Nat.div_add_mod n m).symm
 conv=>rhs;rw [e]
 rw [uP,cB,h,dE]
 exact (Pt.zero_add FK _).symm
theorem ord {n:Nat} (h:aP n BP=Pt.zero DK):LN ∣ n:=by
 refine Classical.byContradiction fun hd => ?_
 have hf:=FI.fermat hd
 have h2:=FI.1
 obtain ⟨e,he⟩ : ∃ e,LN - 1=e+1:=⟨LN - 2,by omega⟩
 rw [he,Nat.pow_succ] at hf
 have k1:aP (n ^ e*n) BP=Pt.zero DK:=by rw [cB,h,dE]
 rw [←vh lK,hf] at k1
 exact K0 (by rw [←k1];exact (Pt.smul_one FK BP).symm)
theorem qc (a b:PT):fG (fG a b) a.neg=b:=by
 show (a.add FK b).add FK a.neg=b
 rw [Pt.add_comm FK a b,Pt.add_assoc,Pt.add_neg,Pt.add_zero]
theorem MW {d:KK} {inv:KK→KK} (F:Fld d inv) (a b p q:Pt d):(a.add F b).add F (p.add F q)=(a.add F p).add F (b.add F q):=by
 rw [Pt.add_assoc F a b,Pt.add_assoc F a p,←Pt.add_assoc F b p q,Pt.add_comm F b p,Pt.add_assoc F p b q]
theorem py {d:KK} {inv:KK→KK} (F:Fld d inv) (p q:Pt d) : ∀ n,(p.add F q).smul F n=(p.smul F n).add F (q.smul F n)
 | 0=>(Pt.add_zero F _).symm
 | n+1=>by
  have ih:=py F p q n
  show ((p.add F q).smul F n).add F (p.add F q)=((p.smul F n).add F p).add F ((q.smul F n).add F q)
  rw [ih]
  exact MW F _ _ _ _
theorem lZ (p q:PT) (n:Nat):aP n (fG p q)=fG (aP n p) (aP n q):=py FK p q n
def TP:PT:=⟨cK 43496726750457979451437558183816721346016168361625936758514574428539776020131,cK 2707385501144840649318225287225658788936804267575313519463743609750303402022,by unfold On DK;decide +kernel⟩
def T2:PT:=⟨cK 38214883241950591754978413199355411911188925816896391856984770930832735035197,cK 0,by unfold On DK;decide +kernel⟩
def T4:PT:=⟨cK 0,cK (pp - 1),by unfold On DK;decide +kernel⟩
theorem LH:T2=fG TP TP:=Pt.add_unique FK TP TP T2 (by unfold DK;decide +kernel) (by unfold DK;decide +kernel)
theorem KR:T4=fG T2 T2:=Pt.add_unique FK T2 T2 T4 (by unfold DK;decide +kernel) (by unfold DK;decide +kernel)
theorem JR:Pt.zero DK=fG T4 T4:=Pt.add_unique FK T4 T4 _ (by unfold DK;decide +kernel) (by unfold DK;decide +kernel)
theorem LC:T4≠Pt.zero DK:=fun h=>absurd (congrArg Pt.y h) (by decide +kernel)
theorem pm4:aP 4 TP=T4:=by
 rw [show (4:Nat)=2*2 from rfl,cB,show aP 2 TP=T2 from (Pt.smul_two FK TP).trans LH.symm]
 exact (Pt.smul_two FK T2).trans KR.symm
theorem pm8:aP 8 TP=Pt.zero DK:=by
 rw [show (8:Nat)=2*4 from rfl,cB,pm4]
 exact (Pt.smul_two FK T4).trans JR.symm
theorem Mh {n:Nat} (h:aP n TP=Pt.zero DK):n % 8=0:=by
 have k : ∀ c,(c*n) % 8≠4:=fun c hc=>LC (by
  rw [←pm4,←hc,vh pm8,cB,h,dE])
 have k1:=k 1;have k2:=k 2;have k4:=k 4
 omega
def QP:PT:=fG BP TP
theorem MI {n:Nat} (h:aP n QP=Pt.zero DK):8*LN ∣ n:=by
 rw [QP,lZ] at h
 have h8:aP (8*n) BP=Pt.zero DK:=by
  have:=congrArg (aP 8) h
  rw [lZ,←cB,←cB,dE,Nat.mul_comm 8 n,cB n 8 TP,pm8,dE] at this
  rw [Nat.mul_comm]
  exact (Pt.add_zero FK _).symm.trans this
 have hL:LN ∣ n:=by
  rcases FI.euclid (ord h8) with e | e
  ·exact absurd e (by decide)
  ·exact e
 obtain ⟨k,rfl⟩:=hL
 have hB:aP (LN*k) BP=Pt.zero DK:=by rw [Nat.mul_comm,cB,lK,dE]
 rw [hB] at h
 have hT:=Mh ((Pt.zero_add FK _).symm.trans h)
 have hk:k % 8=0:=by
  rw [Nat.mul_mod,show LN % 8=5 by decide] at hT
  have:=Nat.mod_lt k (show 0<8 by decide)
  omega
 exact ⟨k/8,by rw [Nat.mul_comm 8 LN,Nat.mul_assoc];congr 1;omega⟩
theorem Jl:aP (8*LN) QP=Pt.zero DK:=by
 rw [QP,lZ,cB,lK,dE,Nat.mul_comm,cB,pm8,dE]
 exact Pt.add_zero FK _
theorem C6 : ∀ (n:Nat) (f:Nat→Nat),(∀ i,i≤n→f i<n) → ∃ i j,i<j∧j≤n∧f i=f j
 | 0,f,h=>absurd (h 0 (Nat.le_refl _)) (Nat.not_lt_zero _)
 | n+1,f,h=>by
  by_cases hc : ∃ i,i<n+1∧f i=f (n+1)
  ·obtain ⟨i,hi,he⟩:=hc
   exact ⟨i,n+1,hi,Nat.le_refl _,he⟩
  ·have hne : ∀ i,i<n+1→f i≠f (n+1):=fun i hi he=>hc ⟨i,hi,he⟩
   obtain ⟨i,j,h1,h2,h3⟩:=C6 n (fun i=>if f i=n then f (n+1) else f i) (fun i hi=>by
    have a:=h i (by omega);have b:=h (n+1) (Nat.le_refl _);have c:=hne i (by omega)
    show (if f i=n then f (n+1) else f i)<n
    split <;> omega)
   refine ⟨i,j,h1,by omega,?_⟩
   have ci:=hne i (by omega);have cj:=hne j (by omega)
   split at h3 <;> split at h3 <;> omega
theorem GR {i j:Nat} (hij:i<j) (h:aP i QP=aP j QP):8*LN≤j - i:=by
 have e:aP (j - i) QP=Pt.zero DK:=by
  have k:=qc (aP i QP) (aP (j - i) QP)
  rw [←uP,show i+(j - i)=j by omega,←h] at k
  exact k.symm.trans (Pt.add_neg FK _)
 exact Nat.le_of_dvd (by omega) (MI e)
theorem KJ:RN<8*LN+8*LN:=by decide
theorem Jv (P:PT):aP (8*LN) P=Pt.zero DK:=by
 have hb:=KJ
 generalize hM:8*LN=M at *
 have hQ:aP M QP=Pt.zero DK:=by rw [←hM];exact Jl
 have hs : ∀ {i j:Nat},i<j→aP i QP=aP j QP→M≤j - i:=fun h1 h2=>by rw [←hM];exact GR h1 h2
 obtain ⟨i,j,h1,h2,h3⟩:=C6 RN (fun i=>if i<M then enc (aP i QP) else enc (fG P (aP (i - M) QP))) (fun i _=>by
  show (if _ then _ else _)<_
  split <;> exact mg _)
 by_cases hi:i<M
 ·rw [if_pos hi] at h3
  by_cases hj:j<M
  ·rw [if_pos hj] at h3
   have:=hs h1 (iL h3)
   omega
  ·rw [if_neg hj] at h3
   have k:=congrArg (aP M) (iL h3)
   rw [lZ,←cB,←cB,Nat.mul_comm M i,Nat.mul_comm M (j - M),cB,cB,hQ,dE,dE] at k
   exact (Pt.add_zero FK _).symm.trans k.symm
 ·rw [if_neg hi,if_neg (by omega : ¬ j<M)] at h3
  have k:=iL h3
  have k2:aP (i - M) QP=aP (j - M) QP:=by
   rw [←qc P (aP (i - M) QP),k,qc]
  have:=hs (show i - M<j - M by omega) k2
  omega
theorem DA (P:PT):aP LN (aP 8 P)=Pt.zero DK:=by rw [←cB,Nat.mul_comm];exact Jv P
theorem Bh {H:PT} (hH:aP LN H=Pt.zero DK) {a r k:Nat} : fG (aP ((k*a+r) % LN) H) (aP k (aP a H)).neg=aP r H:=by
 rw [vh hH,uP,cB,qc]
theorem zK {n:Nat} (h8:n % 8=0) (h1:64*256 ^ 31≤n) (h2:n<128*256 ^ 31) : ¬ LN ∣ n:=by
 rintro ⟨k,rfl⟩
 have e:(256:Nat) ^ 31=452312848583266388373324160190187140051835877600158453279131187530910662656:=by decide
 rw [e] at h1 h2
 have hk:k<8:=by
  refine Classical.byContradiction fun h => ?_
  have:LN*8≤LN*k:=Nat.mul_le_mul_left _ (by omega)
  unfold LN at this h2
  omega
 have hk2:4≤k:=by
  refine Classical.byContradiction fun h => ?_
  have:LN*k≤LN*3:=Nat.mul_le_mul_left _ (by omega)
  unfold LN at this h1
  omega
 have:k=4∨k=5∨k=6∨k=7:=by omega
 unfold LN at h8
 rcases this with rfl | rfl | rfl | rfl <;> exact absurd h8 (by decide)
theorem yF {n:Nat} (hn:n<RN) (hd : ¬ LN ∣ n):y9 (p8 n)=false:=by
 unfold y9
 rw [iM n hn,qw,fu]
 simp only [Bool.true_and,decide_eq_false_iff_not]
 intro h
 rw [←rX] at h
 have h0:=iL h
 rw [←cB] at h0
 rcases FI.euclid (ord h0) with h | h
 ·exact absurd h (by decide)
 ·exact hd h
end Go.Proofs.YtajehiidpecknaaGreatDoor.Wi.Edd
