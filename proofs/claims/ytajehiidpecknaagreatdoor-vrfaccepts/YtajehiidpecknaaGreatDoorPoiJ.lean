/- What package point's calls answer, in the curve's group. -/
import Derived.Test.YtajehiidpecknaaGreatDoorFieT
import Derived.Test.YtajehiidpecknaaGreatDoorPoiM
import Derived.Test.YtajehiidpecknaaGreatDoorPoiG
import Derived.Test.YtajehiidpecknaaGreatDoorFieRL
set_option linter.unusedSimpArgs false
set_option linter.unusedVariables false
namespace Go.Proofs.YtajehiidpecknaaGreatDoor
open Go
def cP (p:P4):E4 KK:=⟨cK p.x,cK p.y,cK p.z,cK p.t⟩
theorem vO (a b:Nat):cK (fad a b)=cK a+cK b:=AN a b
theorem mG (a b:Nat):cK (fsb a b)=cK a - cK b:=Bl a b
theorem fv (a b:Nat):cK (fml a b)=cK a*cK b:=eF a b
theorem uK (a:Nat):cK (fiv a)=k9 (cK a):=(xl a).symm
theorem Ac (x xu y yu:Nat):cP (me x xu y yu)=v8 (cK x) (cK xu) (cK y) (cK yu):=by
 unfold cP me v8
 simp only [fv]
theorem vu (a b:P4):cP (jh a b)=yx DK (cP a) (cP b):=by
 unfold jh
 simp only [Ac]
 unfold yx cP
 simp only [fv,vO,mG]
 rfl
theorem jt (a:P4):cP (dI a)=Ir (cP a):=by
 unfold dI
 simp only [Ac]
 unfold Ir cP
 simp only [fv,vO,mG]
theorem IK (a:P4):cP (vv a)=EO (cP a):=by
 unfold vv EO cP
 simp only [mG,lh]
theorem Ba:cP gV=D7:=by
 unfold gV D7 cP
 simp only [lh,mK]
theorem xG (x y:Nat):cP (atN x y)=atE (cK x) (cK y):=by
 unfold atN atE cP
 simp only [fv,mK]
abbrev PT:Type:=Pt DK
abbrev fG (p q:PT):PT:=p.add FK q
abbrev aP (n:Nat) (p:PT):PT:=p.smul FK n
theorem Dq {a:P4} {p:PT} (h:Rep (cP a) p):Rep (cP (uB a)) (aP 16 p):=by
 unfold uB
 rw [jt,jt,jt,jt]
 show Rep _ (Pt.smul FK 16 p)
 rw [Pt.dbl16]
 exact gH FK (gH FK (gH FK (gH FK h)))
theorem qf {a:P4} {p:PT} (h:Rep (cP a) p) : ∀ i,Rep (cP (muN a i)) (aP i p)
 | 0=>by
  show Rep (cP gV) (Pt.zero DK)
  rw [Ba];exact wo FK
 | i+1=>by
  show Rep (cP (jh (muN a i) a)) ((aP i p).add FK p)
  rw [vu];exact lf FK (qf h i) h
theorem th {t q:P4} {p:PT} {m d:Nat} (ht:Rep (cP t) (aP m p)) (hq:Rep (cP q) (aP d p)):Rep (cP (gQ t q)) (aP (16*m+d) p):=by
 unfold gQ
 rw [vu]
 have:=lf FK (Dq ht) hq
 show Rep _ (Pt.smul FK (16*m+d) p)
 rw [Pt.smul_add,Pt.smul_mul]
 exact this
theorem BH {a:P4} {p:PT} (h:Rep (cP a) p) (n:Nat) (hn:n<RN) : ∀ j,j≤32→Rep (cP (tmR a n j)) (aP (n/256 ^ (32 - j)) p)
 | 0,_=>by
  have:n/256 ^ (32 - 0)=0:=Nat.div_eq_of_lt (by rw [Nat.sub_zero];exact Nat.lt_of_lt_of_le hn (by decide))
  rw [this]
  exact qf h 0
 | j+1,hj=>by
  have ih:=BH h n hn j (by omega)
  have e:n/256 ^ (32 - (j+1))=16*(16*(n/256 ^ (32 - j))+n/256 ^ (31 - j) % 256/16)+n/256 ^ (31 - j) % 256 % 16:=by
   have e1:32 - j=(31 - j)+1:=by omega
   have e2:32 - (j+1)=31 - j:=by omega
   rw [e1,e2,Nat.pow_succ,←Nat.div_div_eq_div_mul]
   generalize n/256 ^ (31 - j)=z
   omega
  rw [e]
  exact th (th ih (qf h _)) (qf h _)
theorem eB {a:P4} {p:PT} (h:Rep (cP a) p) (n:Nat) (hn:n<RN):Rep (cP (cq n a)) (aP n p):=by
 have:=BH h n hn 32 (Nat.le_refl _)
 rw [Nat.sub_self,Nat.pow_zero,Nat.div_one] at this
 exact this
def enc (p:PT):Nat:=p.y.val+p.x.val % 2*TT
theorem nn {a:Nat} {k:KK} (h:a<pp) (e:cK a=k):a=k.val:=by
 rw [←e,dV,Nat.mod_eq_of_lt h]
theorem jr {a:P4} {p:PT} (h:Rep (cP a) p):wrN a=enc p:=by
 obtain ⟨h1,h2,h3,_⟩:=h
 have hz:cK a.z≠0:=h1
 have iv:=FK.inv _ hz
 have hx:cK a.x=p.x*cK a.z:=h2
 have hy:cK a.y=p.y*cK a.z:=h3
 have kx:cK (wx a)=p.x:=by
  unfold wx;rw [fv,uK,hx]
  have:=gC p.x (cK a.z) (k9 (cK a.z))
  rw [this,iv,jC]
 have ky:cK (wy a)=p.y:=by
  unfold wy;rw [fv,uK,hy]
  have:=gC p.y (cK a.z) (k9 (cK a.z))
  rw [this,iv,jC]
 unfold wrN enc
 rw [←nn (eN _ _) kx,←nn (eN _ _) ky]
 rfl
section
variable {d:KK} {inv:KK→KK}
theorem Gj (F:Fld d inv) (y:KK):1+d*(y*y)≠0:=fun h=>by
 obtain ⟨i,hi⟩:=F.root
 have h0:=F.nsq i y (by grind)
 apply F.one
 grind
theorem zG {x y:KK} (h:On d x y):x*x*(1+d*(y*y))=y*y - 1:=by
 unfold On at h;grind
theorem CK {x y:KK} (h:x*x*(1+d*(y*y))=y*y - 1):On d x y:=by
 unfold On;grind
theorem Hm {x y:KK} (h:On d x y):On d (0 - x) y:=by unfold On at *;grind
theorem Ax (F:Fld d inv) {x y:KK} (h:On d x y):(y*y - 1)*inv (1+d*(y*y))=x*x:=by
 have h1:=zG h
 have h2:=F.inv _ (Gj F y)
 generalize inv (1+d*(y*y))=z at *
 rw [←h1]
 grind
theorem vo (F:Fld d inv) {x y:KK} (h:x*x=(y*y - 1)*inv (1+d*(y*y))):On d x y:=by
 have h2:=F.inv _ (Gj F y)
 generalize inv (1+d*(y*y))=z at *
 apply CK
 rw [h]
 grind
theorem Jw (F:Fld d inv) {x z:KK} (h:x*x=z*z):x=z∨x=0 - z:=by
 have:(x - z)*(x+z)=0:=by grind
 rcases F.nz _ _ this with h | h
 ·left;grind
 ·right;grind
end
theorem mn (p:PT):enc p % TT=p.y.val:=by
 unfold enc
 rw [Nat.add_mul_mod_self_right]
 exact Nat.mod_eq_of_lt (Nat.lt_trans p.y.isLt fS)
theorem jy (p:PT):enc p/TT=p.x.val % 2:=by
 unfold enc
 rw [Nat.add_mul_div_right _ _ (by decide),Nat.div_eq_of_lt (Nat.lt_trans p.y.isLt fS),Nat.zero_add]
theorem mg (p:PT):enc p<RN:=by
 unfold enc
 have h1:p.y.val<TT:=Nat.lt_trans p.y.isLt fS
 have h3:RN=TT+TT:=by decide
 rcases (by omega:p.x.val % 2=0∨p.x.val % 2=1) with h | h <;> rw [h] <;> omega
theorem FX (k:KK) (h:k≠0):(0 - k).val=pp - k.val:=by
 have hk:k.val≠0:=fun e=>h (Fin.ext e)
 rw [Fin.sub_def]
 show (pp - k.val+0) % pp=_
 rw [Nat.add_zero]
 have:=k.isLt
 exact Nat.mod_eq_of_lt (by omega)
theorem B8:pp % 2=1:=by decide
theorem iL {p q:PT} (h:enc p=enc q):p=q:=by
 have hy:p.y=q.y:=Fin.ext (by rw [←mn,←mn,h])
 have ho:p.x.val % 2=q.x.val % 2:=by rw [←jy,←jy,h]
 have h1:=Ax FK p.on
 have h2:=Ax FK q.on
 rw [hy,h2] at h1
 rcases Jw FK h1.symm with e | e
 ·exact Pt.ext' e hy
 ·by_cases h0:q.x=0
  ·refine Pt.ext' ?_ hy
   rw [e,h0];rfl
  ·exfalso
   have:=FX q.x h0
   rw [e,this] at ho
   have hl:=q.x.isLt
   have:=B8
   omega
theorem zJ (y:Nat):cK (sxN y)=(cK y*cK y - 1)*k9 (1+DK*(cK y*cK y)):=by
 unfold sxN
 rw [fv,mG,fv,uK,vO,fv,fv,mK]
 rfl
theorem il {s:Nat} : sqe s=0↔rt s*rt s % pp=s % pp:=by
 unfold sqe
 split
 ·rename_i h;exact ⟨fun _=>h,fun _=>rfl⟩
 ·rename_i h;exact ⟨fun e=>absurd e (by decide),fun e=>absurd e h⟩
theorem mW (n:Nat):bD n=true↔n % TT<pp∧sqe (sxN (n % TT))=0 ∧ ¬ (TT≤n∧dU n=0):=by
 unfold bD iq
 simp only [Bool.and_eq_true,decide_eq_true_eq,Bool.not_eq_true',Bool.and_eq_false_iff,decide_eq_false_iff_not]
 constructor
 ·rintro ⟨h1,h2,h3⟩
  exact ⟨h1,h2,fun ⟨a,b⟩=>by rcases h3 with h | h;exact h a;exact h b⟩
 ·rintro ⟨h1,h2,h3⟩
  refine ⟨h1,h2,?_⟩
  by_cases ht:TT≤n
  ·exact .inr fun e=>h3 ⟨ht,e⟩
  ·exact .inl ht
theorem mB {n:Nat} (hn:n<RN) (h:bD n=true) : ∃ p:PT,enc p=n∧Rep (cP (rdP n)) p:=by
 obtain ⟨h1,h2,h3⟩:=(mW n).1 h
 have hs:=il.1 h2
 have hr:dU n=ev (rt (sxN (n % TT))):=by
  unfold dU sqv;rw [if_pos hs]
 have lt:=xL (sxN (n % TT))
 have hr1:dU n<pp:=by rw [hr];exact JK _ lt
 have hr2:dU n % 2=0:=by rw [hr];exact Ga _ lt
 have hr3:dU n*dU n % pp=sxN (n % TT) % pp:=by rw [hr,GG _ lt,hs]
 have hK:cK (dU n)*cK (dU n)=(cK (n % TT)*cK (n % TT) - 1)*k9 (1+DK*(cK (n % TT)*cK (n % TT))):=by
  rw [←zJ,←eF,hr3,mo]
 have on0:=vo FK hK
 have onx:On DK (cK (rdX n)) (cK (n % TT)):=by
  unfold rdX
  split
  ·rw [mG,lh];exact Hm on0
  ·exact on0
 refine ⟨⟨cK (rdX n),cK (n % TT),onx⟩,?_,?_⟩
 ·unfold enc
  simp only
  have hxl:rdX n<pp:=by
   unfold rdX
   split
   ·exact qZ _ _
   ·exact hr1
  rw [dV,dV,Nat.mod_eq_of_lt h1,Nat.mod_eq_of_lt hxl]
  have h4:RN=TT+TT:=by decide
  by_cases ht:TT≤n
  ·have hz : ¬ dU n=0:=fun e=>h3 ⟨ht,e⟩
   have e1:rdX n=pp - dU n:=by
    unfold rdX iq
    rw [decide_eq_true ht,if_pos rfl]
    unfold fsb
    rw [Nat.zero_add,Nat.mod_eq_of_lt hr1,Nat.mod_eq_of_lt (by omega)]
   have:=B8
   have e2:rdX n % 2=1:=by rw [e1];omega
   rw [e2,Nat.one_mul]
   have:n % TT=n - TT:=by rw [Nat.mod_eq_sub_mod ht,Nat.mod_eq_of_lt (by omega)]
   omega
  ·have e1:rdX n=dU n:=by
    unfold rdX iq
    rw [decide_eq_false ht,if_neg Bool.false_ne_true]
   rw [e1,hr2,Nat.zero_mul,Nat.add_zero]
   exact Nat.mod_eq_of_lt (by omega)
 ·unfold rdP
  rw [h,if_pos rfl,xG]
  exact vb FK (⟨cK (rdX n),cK (n % TT),onx⟩:PT)
theorem fu (p:PT):bD (enc p)=true:=by
 have hy:=mn p
 have ky:cK (enc p % TT)=p.y:=by rw [hy];exact tN _
 have ks:cK (sxN (enc p % TT))=p.x*p.x:=by rw [zJ,ky];exact Ax FK p.on
 have hs:sxN (enc p % TT)=p.x.val*p.x.val % pp:=by
  have:=nn (eN _ _) ks
  rw [Fin.val_mul] at this
  exact this
 have hr:=El p.x.val _ hs
 rw [mW]
 refine ⟨by rw [hy];exact p.y.isLt,il.2 hr,?_⟩
 rintro ⟨ht,hz⟩
 have hodd:p.x.val % 2=1:=by
  rw [←jy]
  have h4:RN=TT*2:=by decide
  have hl:=mg p
  have h1:enc p/TT<2:=by rw [Nat.div_lt_iff_lt_mul (by decide)];omega
  have h2:1≤enc p/TT:=by rw [Nat.le_div_iff_mul_le (by decide)];omega
  omega
 have hz':ev (rt (sxN (enc p % TT)))=0:=by
  unfold dU sqv at hz
  rw [if_pos hr] at hz
  exact hz
 have e:=GG _ (xL (sxN (enc p % TT)))
 rw [hz',hr,Nat.mul_zero,Nat.zero_mod] at e
 have k0:p.x*p.x=0:=by rw [←ks];exact eH.2 e.symm
 have:p.x=0:=by
  rcases FK.nz _ _ k0 with h | h <;> exact h
 rw [this] at hodd
 exact absurd hodd (by decide)
theorem jl (p:PT):Rep (cP (rdP (enc p))) p:=by
 obtain ⟨q,h1,h2⟩:=mB (mg p) (fu p)
 rw [←iL h1];rw [iL h1] at h2 ⊢;exact h2
def BP:PT:=⟨cK GX,cK GY,by unfold On DK;decide +kernel⟩
theorem wL:Rep (cP jG) BP:=by
 unfold jG
 rw [xG]
 exact vb FK BP
theorem Av:enc BP=GY:=by decide +kernel
theorem rX:enc (Pt.zero DK)=1:=by decide +kernel
theorem E2 (p q:PT):addN (enc p) (enc q)=enc (fG p q)∧sQ (enc p) (enc q)=0:=by
 unfold addN sQ
 rw [fu,fu,Bool.true_and,if_pos rfl,if_pos rfl]
 refine ⟨jr ?_,rfl⟩
 rw [vu]
 exact lf FK (jl p) (jl q)
theorem Eu (p:PT):mS (enc p)=enc p.neg:=by
 unfold mS
 rw [fu,if_pos rfl]
 refine jr ?_
 rw [IK]
 exact Ep (jl p)
theorem rm (n:Nat) (hn:n<RN) (p:PT):p7 n (enc p)=enc (aP n p):=by
 unfold p7
 rw [fu,if_pos rfl]
 exact jr (eB (jl p) n hn)
theorem iM (n:Nat) (hn:n<RN):p8 n=enc (aP n BP):=jr (eB wL n hn)
theorem qw (p:PT):nf (enc p)=enc (aP 8 p):=by
 unfold nf
 rw [fu,if_pos rfl]
 refine jr ?_
 rw [jt,jt,jt]
 show Rep _ (Pt.smul FK 8 p)
 rw [Pt.dbl8]
 exact gH FK (gH FK (gH FK (jl p)))
theorem w9 (p:PT):rdE (enc p)=0:=dO (fu p)
end Go.Proofs.YtajehiidpecknaaGreatDoor
/- The field's reference as contracts of the small memory: just what each call answers. -/
namespace Go.Proofs.YtajehiidpecknaaGreatDoor
open Go Go.RowKit
def ku:List Value→Nat
 | []=>0
 | .int _ x :: l=>x.toNat+18446744073709551616*ku l
 | _ :: l=>18446744073709551616*ku l
def aX:Value→Nat
 | .agg cs=>ku cs.toList
 | _=>0
theorem gL {n:Nat} (h:n<RN):ku (nl n)=n:=by
 have e:ku (nl n)=(lw n 0).toNat+18446744073709551616*((lw n 1).toNat+18446744073709551616*((lw n 2).toNat+18446744073709551616*((lw n 3).toNat+18446744073709551616*0))):=rfl
 rw [e]
 unfold lw
 simp only [Int.toNat_natCast]
 have e2:n/18446744073709551616 ^ 2=n/18446744073709551616/18446744073709551616:=by rw [Nat.div_div_eq_div_mul]
 have e3:n/18446744073709551616 ^ 3=n/18446744073709551616/18446744073709551616/18446744073709551616:=by rw [Nat.div_div_eq_div_mul,Nat.div_div_eq_div_mul]
 rw [e2,e3,Nat.pow_zero,Nat.div_one,Nat.pow_one]
 simp only [RN] at h
 omega
theorem a8 {n:Nat} (h:n<RN):aX (nv n)=n:=gL h
def IsW (A:Value):Prop:=A=nv (aX A)∧aX A<RN
theorem ic {n:Nat} (h:n<RN):IsW (nv n):=by unfold IsW;rw [a8 h];exact ⟨rfl,h⟩
theorem gm (n:Nat):flat (nv n)=true:=rfl
def rfa (a b:Nat):Nat:=fX (a+b)
def rfs (a b:Nat):Nat:=fX (a+(pp - b % pp))
def rfm (a b:Nat):Nat:=fX (fh (a*b))
def rfi (a:Nat):Nat:=pX a (pp - 2) 256
theorem oo {T:Nat} (h:T/RN<18446744073709551616):fX T<RN:=by
 unfold fX
 have:=Nat.mod_lt T (show 0<RN by decide)
 simp only [RN] at *
 split <;> omega
theorem qW {T:Nat} (h:T/RN<18446744073709551616):fX T % pp=T % pp:=by
 have e:=Nat.div_add_mod T RN
 unfold fX
 have:=Nat.mod_lt T (show 0<RN by decide)
 generalize T/RN=q at *
 generalize T % RN=r at *
 subst e
 simp only [RN,pp] at *
 split <;> omega
theorem gq {a b:Nat} (ha:a<RN) (hb:b<RN):fh (a*b)/RN<18446744073709551616:=by
 have h1:a*b/RN<RN:=by
  rw [Nat.div_lt_iff_lt_mul (by decide)]
  exact Nat.mul_lt_mul'' ha hb
 unfold fh
 have:=Nat.mod_lt (a*b) (show 0<RN by decide)
 generalize a*b/RN=q at *
 generalize a*b % RN=r at *
 simp only [RN] at *
 omega
theorem yG (n:Nat):fh n % pp=n % pp:=by
 have e:=Nat.div_add_mod n RN
 unfold fh
 generalize n/RN=q at *
 generalize n % RN=r at *
 subst e
 simp only [RN,pp] at *
 omega
theorem wU {a b:Nat} (ha:a<RN) (hb:b<RN):(a+b)/RN<18446744073709551616:=by simp only [RN] at *;omega
theorem rC {a:Nat} (b:Nat) (ha:a<RN):(a+(pp - b % pp))/RN<18446744073709551616:=by simp only [RN,pp] at *;omega
theorem bo {a b:Nat} (ha:a<RN) (hb:b<RN):rfa a b<RN:=oo (wU ha hb)
theorem bR {a:Nat} (b:Nat) (ha:a<RN):rfs a b<RN:=oo (rC b ha)
theorem bJ {a b:Nat} (ha:a<RN) (hb:b<RN):rfm a b<RN:=oo (gq ha hb)
theorem Bv {a:Nat} (b:Nat) (ha:a<RN) : ∀ j,pX a b j<RN
 | 0=>by show (1:Nat)<RN;decide
 | j+1=>by
  have ih:=Bv b ha j
  unfold pX
  split
  ·exact oo (gq (oo (gq ih ih)) ha)
  ·exact oo (gq ih ih)
theorem rq {a:Nat} (ha:a<RN):rfi a<RN:=Bv _ ha 256
theorem lg {a b:Nat} (ha:a<RN) (hb:b<RN):rfm a b % pp=a*b % pp:=by
 unfold rfm;rw [qW (gq ha hb),yG]
theorem CV {a b:Nat} (ha:a<RN) (hb:b<2 ^ 256) : ∀ j,j≤256→pX a b j % pp=a ^ (b/2 ^ (256 - j)) % pp
 | 0,_=>by rw [Nat.sub_zero,Nat.div_eq_of_lt hb,Nat.pow_zero];rfl
 | j+1,hj=>by
  have ih:=CV ha hb j (by omega)
  have hl:=Bv b ha j
  have e1:256 - j=(255 - j)+1:=by omega
  have e2:256 - (j+1)=255 - j:=by omega
  rw [e1] at ih
  rw [e2]
  unfold pX
  split
  ·rename_i h
   exact xq a b (255 - j) _ _ _ ih (lg hl hl) (lg (bJ hl hl) ha) h
  ·rename_i h
   exact pW a b (255 - j) _ _ ih (lg hl hl) (by omega)
theorem jw {a b:Nat} (ha:a<RN) (hb:b<RN):cK (rfa a b)=cK a+cK b:=by
 rw [←AN];exact fl.2 (by rw [Nat.mod_mod];exact qW (wU ha hb))
theorem mD {a:Nat} (b:Nat) (ha:a<RN):cK (rfs a b)=cK a - cK b:=by
 rw [←Bl];exact fl.2 (by rw [Nat.mod_mod];exact qW (rC b ha))
theorem cW {a b:Nat} (ha:a<RN) (hb:b<RN):cK (rfm a b)=cK a*cK b:=by
 rw [←eF];exact fl.2 (by rw [Nat.mod_mod];exact lg ha hb)
theorem uI {a:Nat} (ha:a<RN):cK (rfi a)=k9 (cK a):=by
 rw [xl]
 refine fl.2 ?_
 rw [Nat.mod_mod]
 have:=CV (b:=pp - 2) ha (by decide) 256 (Nat.le_refl _)
 rw [Nat.sub_self,Nat.pow_zero,Nat.div_one] at this
 exact this
def WA (A B:Value):Value:=nv (rfa (aX A) (aX B))
def WS (A B:Value):Value:=nv (rfs (aX A) (aX B))
def WM (A B:Value):Value:=nv (rfm (aX A) (aX B))
def WI (A:Value):Value:=nv (rfi (aX A))
def WL (A:Value):Value:=nv (aX A % pp)
def gWpl:List Value→Option (List Prop × Value)
 | [A,B]=>some ([IsW A∧IsW B],WA A B)
 | _=>none
theorem Du {X:Cx} (hX:X.Ok Tryz.prog):(X.pure 89 gWpl).Ok Tryz.prog:=by
 refine aC hX Tryz.func89 (by kernel_rfl) (by kernel_rfl) ?_
 intro args ps v ha hg hp
 unfold gWpl at hg
 split at hg
 ·rename_i A B
  simp only [qG,qH] at hg
  obtain ⟨rfl,rfl⟩:=hg
  obtain ⟨hA,hB⟩:=hp _ (List.mem_singleton.2 rfl)
  refine ⟨.inl (gm _),fun w => ?_⟩
  have h:Calls Tryz.prog 89 #[nv (aX A),nv (aX B)] w fun e w'=>e = .returned (WA A B)∧Below w.heap.size w w':=(m6 (aX A) (aX B) hA.2 hB.2 w).mono fun e w' ⟨z,h1,h2,h3,h4⟩=>⟨by rw [h2,h3.2];rfl,h4⟩
  rw [←hA.1,←hB.1] at h
  exact h
 ·simp at hg
def Jz:List Value→Option (List Prop × Value)
 | [A,B]=>some ([IsW A∧IsW B],WS A B)
 | _=>none
theorem DU {X:Cx} (hX:X.Ok Tryz.prog):(X.pure 86 Jz).Ok Tryz.prog:=by
 refine aC hX Tryz.func86 (by kernel_rfl) (by kernel_rfl) ?_
 intro args ps v ha hg hp
 unfold Jz at hg
 split at hg
 ·rename_i A B
  simp only [qG,qH] at hg
  obtain ⟨rfl,rfl⟩:=hg
  obtain ⟨hA,hB⟩:=hp _ (List.mem_singleton.2 rfl)
  refine ⟨.inl (gm _),fun w => ?_⟩
  have h:Calls Tryz.prog 86 #[nv (aX A),nv (aX B)] w fun e w'=>e = .returned (WS A B)∧Below w.heap.size w w':=(ti (aX A) (aX B) hA.2 hB.2 w).mono fun e w' ⟨z,h1,h2,h3,h4⟩=>⟨by rw [h2,h3.2];rfl,h4⟩
  rw [←hA.1,←hB.1] at h
  exact h
 ·simp at hg
def Ik:List Value→Option (List Prop × Value)
 | [A,B]=>some ([IsW A∧IsW B],WM A B)
 | _=>none
theorem Ey {X:Cx} (hX:X.Ok Tryz.prog):(X.pure 84 Ik).Ok Tryz.prog:=by
 refine aC hX Tryz.func84 (by kernel_rfl) (by kernel_rfl) ?_
 intro args ps v ha hg hp
 unfold Ik at hg
 split at hg
 ·rename_i A B
  simp only [qG,qH] at hg
  obtain ⟨rfl,rfl⟩:=hg
  obtain ⟨hA,hB⟩:=hp _ (List.mem_singleton.2 rfl)
  refine ⟨.inl (gm _),fun w => ?_⟩
  have h:Calls Tryz.prog 84 #[nv (aX A),nv (aX B)] w fun e w'=>e = .returned (WM A B)∧Below w.heap.size w w':=(ia (aX A) (aX B) hA.2 hB.2 w).mono fun e w' ⟨z,h1,h2,h3,h4⟩=>⟨by rw [h2,h3.2];rfl,h4⟩
  rw [←hA.1,←hB.1] at h
  exact h
 ·simp at hg
def gWin:List Value→Option (List Prop × Value)
 | [A]=>some ([IsW A],WI A)
 | _=>none
theorem Ea {X:Cx} (hX:X.Ok Tryz.prog):(X.pure 88 gWin).Ok Tryz.prog:=by
 refine aC hX Tryz.func88 (by kernel_rfl) (by kernel_rfl) ?_
 intro args ps v ha hg hp
 unfold gWin at hg
 split at hg
 ·rename_i A
  simp only [qG,qH] at hg
  obtain ⟨rfl,rfl⟩:=hg
  have hA:=hp _ (List.mem_singleton.2 rfl)
  refine ⟨.inl (gm _),fun w => ?_⟩
  have h:Calls Tryz.prog 88 #[nv (aX A)] w fun e w'=>e = .returned (WI A)∧Below w.heap.size w w':=(nP (aX A) hA.2 w).mono fun e w' ⟨z,h1,h2,h3,h4⟩=>⟨by rw [h2,h3.2];rfl,h4⟩
  rw [←hA.1] at h
  exact h
 ·simp at hg
def Is:List Value→Option (List Prop × Value)
 | [A]=>some ([IsW A],WL A)
 | _=>none
theorem Gb {X:Cx} (hX:X.Ok Tryz.prog):(X.pure 91 Is).Ok Tryz.prog:=by
 refine aC hX Tryz.func91 (by kernel_rfl) (by kernel_rfl) ?_
 intro args ps v ha hg hp
 unfold Is at hg
 split at hg
 ·rename_i A
  simp only [qG,qH] at hg
  obtain ⟨rfl,rfl⟩:=hg
  have hA:=hp _ (List.mem_singleton.2 rfl)
  refine ⟨.inl (gm _),fun w => ?_⟩
  have h:Calls Tryz.prog 91 #[nv (aX A)] w fun e w'=>e = .returned (WL A)∧Below w.heap.size w w':=dn (aX A) hA.2 w
  rw [←hA.1] at h
  exact h
 ·simp at hg
def IF:List Value→Option (List Prop × Value)
 | [A]=>some ([IsW A],bv (aX A % pp))
 | _=>none
theorem D6 {X:Cx} (hX:X.Ok Tryz.prog):(X.pure 92 IF).Ok Tryz.prog:=by
 refine aC hX Tryz.func92 (by kernel_rfl) (by kernel_rfl) ?_
 intro args ps v ha hg hp
 unfold IF at hg
 split at hg
 ·rename_i A
  simp only [qG,qH] at hg
  obtain ⟨rfl,rfl⟩:=hg
  have hA:=hp _ (List.mem_singleton.2 rfl)
  refine ⟨.inl (aE _),fun w => ?_⟩
  have h:Calls Tryz.prog 92 #[nv (aX A)] w fun e w'=>e = .returned (bv (aX A % pp))∧Below w.heap.size w w':=uC (aX A) hA.2 w
  rw [←hA.1] at h
  exact h
 ·simp at hg
def I9:List Value→Option (List Prop × Value)
 | [A]=>some ([IsB A],nv (aj A))
 | _=>none
theorem FQ {X:Cx} (hX:X.Ok Tryz.prog):(X.pure 83 I9).Ok Tryz.prog:=by
 refine aC hX Tryz.func83 (by kernel_rfl) (by kernel_rfl) ?_
 intro args ps v ha hg hp
 unfold I9 at hg
 split at hg
 ·rename_i A
  simp only [qG,qH] at hg
  obtain ⟨rfl,rfl⟩:=hg
  have hA:=hp _ (List.mem_singleton.2 rfl)
  refine ⟨.inl (gm _),fun w => ?_⟩
  have h:Calls Tryz.prog 83 #[bv (aj A)] w fun e w'=>e = .returned (nv (aj A))∧Below w.heap.size w w':=oq (aj A) (aT hA) w
  rw [← (show A=bv (aj A) from hA)] at h
  exact h
 ·simp at hg
def GO:List Value→Option (List Prop × Value)
 | [A]=>some ([IsB A],.bool (decide (aj A<pp)))
 | _=>none
theorem DE {X:Cx} (hX:X.Ok Tryz.prog):(X.pure 82 GO).Ok Tryz.prog:=by
 refine aC hX Tryz.func82 (by kernel_rfl) (by kernel_rfl) ?_
 intro args ps v ha hg hp
 unfold GO at hg
 split at hg
 ·rename_i A
  simp only [qG,qH] at hg
  obtain ⟨rfl,rfl⟩:=hg
  have hA:=hp _ (List.mem_singleton.2 rfl)
  refine ⟨.inl rfl,fun w => ?_⟩
  have h:Calls Tryz.prog 82 #[bv (aj A)] w fun e w'=>e = .returned (.bool (decide (aj A<pp)))∧Below w.heap.size w w':=mc (aj A) (aT hA) w
  rw [← (show A=bv (aj A) from hA)] at h
  exact h
 ·simp at hg
theorem zj (n:Nat) (b:Bool):flat (.tuple #[nv n,.bool b])=true:=rfl
def G9:List Value→Option (List Prop × Value)
 | [A]=>some ([IsW A],.tuple #[nv (rt (aX A)),.bool (decide (rt (aX A)*rt (aX A) % pp=aX A % pp))])
 | _=>none
theorem C9 {X:Cx} (hX:X.Ok Tryz.prog):(X.pure 85 G9).Ok Tryz.prog:=by
 refine aC hX Tryz.func85 (by kernel_rfl) (by kernel_rfl) ?_
 intro args ps v ha hg hp
 unfold G9 at hg
 split at hg
 ·rename_i A
  simp only [qG,qH] at hg
  obtain ⟨rfl,rfl⟩:=hg
  have hA:=hp _ (List.mem_singleton.2 rfl)
  refine ⟨.inl (zj _ _),fun w => ?_⟩
  have h:Calls Tryz.prog 85 #[nv (aX A)] w fun e w'=>e = .returned (.tuple #[nv (rt (aX A)),.bool (decide (rt (aX A)*rt (aX A) % pp=aX A % pp))])∧Below w.heap.size w w':=yi (aX A) hA.2 w
  rw [←hA.1] at h
  exact h
 ·simp at hg
theorem Ll:sfun Tryz.prog Cx.none 60 Tryz.f90 (ai Tryz.f90) []=some ([],nv DN'):=by kernel_rfl
def gWd:List Value→Option (List Prop × Value)
 | []=>some ([],nv DN')
 | _=>none
theorem GW {X:Cx} (hX:X.Ok Tryz.prog):(X.pure 90 gWd).Ok Tryz.prog:=by
 refine aC hX Tryz.func90 (by kernel_rfl) (by kernel_rfl) ?_
 intro args ps v ha hg hp
 unfold gWd at hg
 split at hg
 ·simp only [qG,qH] at hg
  obtain ⟨rfl,rfl⟩:=hg
  exact ⟨.inl rfl,aA Cx.none_ok mixed Tryz.func90 (by kernel_rfl) Ll (by simp) rfl (.inl rfl)⟩
 ·simp at hg
def gWsm:List Value→Option (List Prop × Value)
 | [.int .u64 x]=>some ([],.agg #[.int .u64 x,.int .u64 0,.int .u64 0,.int .u64 0])
 | _=>none
theorem Dv {X:Cx} (hX:X.Ok Tryz.prog):(X.pure 87 gWsm).Ok Tryz.prog:=by
 refine aC hX Tryz.func87 (by kernel_rfl) (by kernel_rfl) ?_
 intro args ps v ha hg hp
 unfold gWsm at hg
 split at hg
 ·rename_i x
  simp only [qG,qH] at hg
  obtain ⟨rfl,rfl⟩:=hg
  exact ⟨.inl rfl,fun w=>mv x w⟩
 ·simp at hg
def H0:Cx:=((((((((((Cx.none.pure 89 gWpl).pure 86 Jz).pure 84 Ik).pure 88 gWin).pure 91 Is).pure 92 IF).pure 83 I9).pure 82 GO).pure 85 G9).pure 90 gWd).pure 87 gWsm
theorem sJ:H0.Ok Tryz.prog:=Dv (GW (C9 (DE (FQ (D6 (Gb (Ea (Ey (DU (Du Cx.none_ok))))))))))
end Go.Proofs.YtajehiidpecknaaGreatDoor
