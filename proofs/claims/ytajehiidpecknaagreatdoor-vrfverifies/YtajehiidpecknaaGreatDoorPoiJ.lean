import Derived.Test.YtajehiidpecknaaGreatDoorFieT
import Derived.Test.YtajehiidpecknaaGreatDoorPoiM
import Derived.Test.YtajehiidpecknaaGreatDoorPoiG
import Derived.Test.YtajehiidpecknaaGreatDoorFieRL
set_option linter.all false
namespace Go.Proofs.YtajehiidpecknaaGreatDoor
open Go
def cP (p:P4):E4 KK:=⟨cK p.x,cK p.y,cK p.z,cK p.t⟩
theorem vv (a b:Nat):cK (fad a b)=cK a+cK b:=CJ a b
theorem oC (a b:Nat):cK (fsb a b)=cK a - cK b:=Cg a b
theorem fK (a b:Nat):cK (fml a b)=cK a*cK b:=eY a b
theorem wZ (a:Nat):cK (fiv a)=l6 (cK a):=(yi a).symm
theorem Bn (x xu y yu:Nat):cP (ou x xu y yu)=wJ (cK x) (cK xu) (cK y) (cK yu):=by
 unfold cP ou wJ
 simp only [fK]
theorem vn (a b:P4):cP (jG a b)=zK DK (cP a) (cP b):=by
 unfold jG
 simp only [Bn]
 unfold zK cP
 simp only [fK,vv,oC]
 rfl
theorem jE (a:P4):cP (dY a)=Ig (cP a):=by
 unfold dY
 simp only [Bn]
 unfold Ig cP
 simp only [fK,vv,oC]
theorem Kh (a:P4):cP (vl a)=zt (cP a):=by
 unfold vl zt cP
 simp only [oC,kl]
theorem CD:cP iB=FU:=by
 unfold iB FU cP
 simp only [kl,ns]
theorem yJ (x y:Nat):cP (atN x y)=atE (cK x) (cK y):=by
 unfold atN atE cP
 simp only [fK,ns]
abbrev PT:Type:=Pt DK
abbrev vq (p q:PT):PT:=p.add FK q
abbrev dN (n:Nat) (p:PT):PT:=p.smul FK n
theorem G3 {a:P4} {p:PT} (h:Rep (cP a) p):Rep (cP (xj a)) (dN 16 p):=by
 unfold xj
 rw [jE,jE,jE,jE]
 show Rep _ (Pt.smul FK 16 p)
 rw [Pt.dbl16]
 exact gU FK (gU FK (gU FK (gU FK h)))
theorem ru {a:P4} {p:PT} (h:Rep (cP a) p) : ∀ i,Rep (cP (muN a i)) (dN i p)
 | 0=>by
  show Rep (cP iB) (Pt.zero DK)
  rw [CD];exact xV FK
 | i+1=>by
  show Rep (cP (jG (muN a i) a)) ((dN i p).add FK p)
  rw [vn];exact mN FK (ru h i) h
theorem tf {t q:P4} {p:PT} {m d:Nat} (ht:Rep (cP t) (dN m p)) (hq:Rep (cP q) (dN d p)):Rep (cP (gY t q)) (dN (16*m+d) p):=by
 unfold gY
 rw [vn]
 have:=mN FK (G3 ht) hq
 show Rep _ (Pt.smul FK (16*m+d) p)
 rw [Pt.smul_add,Pt.smul_mul]
 exact this
theorem CF {a:P4} {p:PT} (h:Rep (cP a) p) (n:Nat) (hn:n<RN) : ∀ j,j≤32→Rep (cP (tmR a n j)) (dN (n/256 ^ (32 - j)) p)
 | 0,_=>by
  have:n/256 ^ (32 - 0)=0:=Nat.div_eq_of_lt (by rw [Nat.sub_zero];exact YI hn (by decide))
  rw [this]
  exact ru h 0
 | j+1,hj=>by
  have ih:=CF h n hn j (by omega)
  have e:n/256 ^ (32 - (j+1))=16*(16*(n/256 ^ (32 - j))+n/256 ^ (31 - j) % 256/16)+n/256 ^ (31 - j) % 256 % 16:=by
   have e1:32 - j=(31 - j)+1:=by omega
   have e2:32 - (j+1)=31 - j:=by omega
   rw [e1,e2,Nat.pow_succ,←YL]
   generalize n/256 ^ (31 - j)=z
   omega
  rw [e]
  exact tf (tf ih (ru h _)) (ru h _)
theorem iR {a:P4} {p:PT} (h:Rep (cP a) p) (n:Nat) (hn:n<RN):Rep (cP (dG n a)) (dN n p):=by
 have:=CF h n hn 32 (Nat.le_refl _)
 rw [Nat.sub_self,Nat.pow_zero,Nat.div_one] at this
 exact this
def enc (p:PT):Nat:=p.y.val+p.x.val % 2*TT
theorem oL {a:Nat} {k:KK} (h:a<pp) (e:cK a=k):a=k.val:=by
 rw [←e,eF,YK h]
theorem kZ {a:P4} {p:PT} (h:Rep (cP a) p):wrN a=enc p:=by
 obtain ⟨h1,h2,h3,_⟩:=h
 have hz:cK a.z≠0:=h1
 have iv:=FK.inv _ hz
 have hx:cK a.x=p.x*cK a.z:=h2
 have hy:cK a.y=p.y*cK a.z:=h3
 have kx:cK (wx a)=p.x:=by
  unfold wx;rw [fK,wZ,hx]
  have:=gO p.x (cK a.z) (l6 (cK a.z))
  rw [this,iv,j5]
 have ky:cK (wy a)=p.y:=by
  unfold wy;rw [fK,wZ,hy]
  have:=gO p.y (cK a.z) (l6 (cK a.z))
  rw [this,iv,j5]
 unfold wrN enc
 rw [←oL (eZ _ _) kx,←oL (eZ _ _) ky]
 rfl
section
variable {d:KK} {inv:KK→KK}
theorem He (F:Fld d inv) (y:KK):1+d*(y*y)≠0:=fun h=>by
 obtain ⟨i,hi⟩:=F.root
 have h0:=F.nsq i y (by grind)
 apply F.one
 grind
theorem Cu {x y:KK} (h:On d x y):x*x*(1+d*(y*y))=y*y - 1:=by
 unfold On at h;grind
theorem Ai {x y:KK} (h:x*x*(1+d*(y*y))=y*y - 1):On d x y:=by
 unfold On;grind
theorem Io {x y:KK} (h:On d x y):On d (0 - x) y:=by unfold On at *;grind
theorem B5 (F:Fld d inv) {x y:KK} (h:On d x y):(y*y - 1)*inv (1+d*(y*y))=x*x:=by
 have h1:=Cu h
 have h2:=F.inv _ (He F y)
 generalize inv (1+d*(y*y))=z at *
 rw [←h1]
 grind
theorem vG (F:Fld d inv) {x y:KK} (h:x*x=(y*y - 1)*inv (1+d*(y*y))):On d x y:=by
 have h2:=F.inv _ (He F y)
 generalize inv (1+d*(y*y))=z at *
 apply Ai
 rw [h]
 grind
theorem IQ (F:Fld d inv) {x z:KK} (h:x*x=z*z):x=z∨x=0 - z:=by
 have:(x - z)*(x+z)=0:=by grind
 rcases F.nz _ _ this with h | h
 ·left;grind
 ·right;grind
end
theorem ot (p:PT):enc p % TT=p.y.val:=by
 unfold enc
 rw [Nat.add_mul_mod_self_right]
 exact YK (Nat.lt_trans p.y.isLt fj)
theorem jC (p:PT):enc p/TT=p.x.val % 2:=by
 unfold enc
 rw [Nat.add_mul_div_right _ _ (by decide),Nat.div_eq_of_lt (Nat.lt_trans p.y.isLt fj),Nat.zero_add]
theorem Az (p:PT):enc p<RN:=by
 unfold enc
 have h1:p.y.val<TT:=Nat.lt_trans p.y.isLt fj
 have h3:RN=TT+TT:=by decide
 rcases (by omega:p.x.val % 2=0∨p.x.val % 2=1) with h | h <;> rw [h] <;> omega
theorem FL (k:KK) (h:k≠0):(0 - k).val=pp - k.val:=by
 have hk:k.val≠0:=fun e=>h (Fin.ext e)
 rw [Fin.sub_def]
 show (pp - k.val+0) % pp=_
 rw [Nat.add_zero]
 have:=k.isLt
 exact YK (by omega)
theorem C8:pp % 2=1:=by decide
theorem ym {p q:PT} (h:enc p=enc q):p=q:=by
 have hy:p.y=q.y:=Fin.ext (by rw [←ot,←ot,h])
 have ho:p.x.val % 2=q.x.val % 2:=by rw [←jC,←jC,h]
 have h1:=B5 FK p.on
 have h2:=B5 FK q.on
 rw [hy,h2] at h1
 rcases IQ FK h1.symm with e | e
 ·exact Pt.ext' e hy
 ·by_cases h0:q.x=0
  ·refine Pt.ext' ?_ hy
   rw [e,h0];rfl
  ·exfalso
   have:=FL q.x h0
   rw [e,this] at ho
   have hl:=q.x.isLt
   have:=C8
   omega
theorem CZ (y:Nat):cK (sxN y)=(cK y*cK y - 1)*l6 (1+DK*(cK y*cK y)):=by
 unfold sxN
 rw [fK,oC,fK,wZ,vv,fK,fK,ns]
 rfl
theorem iI {s:Nat} : sqe s=0↔rt s*rt s % pp=s % pp:=by
 unfold sqe
 split
 ·rename_i h;exact ⟨fun _=>h,fun _=>rfl⟩
 ·rename_i h;exact ⟨fun e=>absurd e (by decide),fun e=>absurd e h⟩
theorem oy (n:Nat):a7 n=true↔n % TT<pp∧sqe (sxN (n % TT))=0 ∧ ¬ (TT≤n∧eD n=0):=by
 unfold a7 im
 simp only [Bool.and_eq_true,decide_eq_true_eq,Bool.not_eq_true',Bool.and_eq_false_iff,decide_eq_false_iff_not]
 constructor
 ·rintro ⟨h1,h2,h3⟩
  exact ⟨h1,h2,fun ⟨a,b⟩=>by rcases h3 with h | h;exact h a;exact h b⟩
 ·rintro ⟨h1,h2,h3⟩
  refine ⟨h1,h2,?_⟩
  by_cases ht:TT≤n
  ·exact .inr fun e=>h3 ⟨ht,e⟩
  ·exact .inl ht
theorem eU {n:Nat} (hn:n<RN) (h:a7 n=true) : ∃ p:PT,enc p=n∧Rep (cP (rdP n)) p:=by
 obtain ⟨h1,h2,h3⟩:=(oy n).1 h
 have hs:=iI.1 h2
 have hr:eD n=ev (rt (sxN (n % TT))):=by
  unfold eD sqv;rw [if_pos hs]
 have lt:=yk (sxN (n % TT))
 have hr1:eD n<pp:=by rw [hr];exact Ly _ lt
 have hr2:eD n % 2=0:=by rw [hr];exact ER _ lt
 have hr3:eD n*eD n % pp=sxN (n % TT) % pp:=by rw [hr,Hf _ lt,hs]
 have hK:cK (eD n)*cK (eD n)=(cK (n % TT)*cK (n % TT) - 1)*l6 (1+DK*(cK (n % TT)*cK (n % TT))):=by
  rw [←CZ,←eY,hr3,oE]
 have on0:=vG FK hK
 have onx:On DK (cK (rdX n)) (cK (n % TT)):=by
  unfold rdX
  split
  ·rw [oC,kl];exact Io on0
  ·exact on0
 refine ⟨⟨cK (rdX n),cK (n % TT),onx⟩,?_,?_⟩
 ·unfold enc
  simp only
  have hxl:rdX n<pp:=by
   unfold rdX
   split
   ·exact sr _ _
   ·exact hr1
  rw [eF,eF,YK h1,YK hxl]
  have h4:RN=TT+TT:=by decide
  by_cases ht:TT≤n
  ·have hz : ¬ eD n=0:=fun e=>h3 ⟨ht,e⟩
   have e1:rdX n=pp - eD n:=by
    unfold rdX im
    rw [decide_eq_true ht,if_pos rfl]
    unfold fsb
    rw [Nat.zero_add,YK hr1,YK (by omega)]
   have:=C8
   have e2:rdX n % 2=1:=by rw [e1];omega
   rw [e2,Nat.one_mul]
   have:n % TT=n - TT:=by rw [Nat.mod_eq_sub_mod ht,YK (by omega)]
   omega
  ·have e1:rdX n=eD n:=by
    unfold rdX im
    rw [decide_eq_false ht,if_neg Bool.false_ne_true]
   rw [e1,hr2,Nat.zero_mul,Nat.add_zero]
   exact YK (by omega)
 ·unfold rdP
  rw [h,if_pos rfl,yJ]
  exact vI FK (⟨cK (rdX n),cK (n % TT),onx⟩:PT)
theorem gM (p:PT):a7 (enc p)=true:=by
 have hy:=ot p
 have ky:cK (enc p % TT)=p.y:=by rw [hy];exact tV _
 have ks:cK (sxN (enc p % TT))=p.x*p.x:=by rw [CZ,ky];exact B5 FK p.on
 have hs:sxN (enc p % TT)=p.x.val*p.x.val % pp:=by
  have:=oL (eZ _ _) ks
  rw [Fin.val_mul] at this
  exact this
 have hr:=FT p.x.val _ hs
 rw [oy]
 refine ⟨by rw [hy];exact p.y.isLt,iI.2 hr,?_⟩
 rintro ⟨ht,hz⟩
 have hodd:p.x.val % 2=1:=by
  rw [←jC]
  have h4:RN=TT*2:=by decide
  have hl:=Az p
  have h1:enc p/TT<2:=by rw [Nat.div_lt_iff_lt_mul (by decide)];omega
  have h2:1≤enc p/TT:=by rw [Nat.le_div_iff_mul_le (by decide)];omega
  omega
 have hz':ev (rt (sxN (enc p % TT)))=0:=by
  unfold eD sqv at hz
  rw [if_pos hr] at hz
  exact hz
 have e:=Hf _ (yk (sxN (enc p % TT)))
 rw [hz',hr,Nat.mul_zero,Nat.zero_mod] at e
 have k0:p.x*p.x=0:=by rw [←ks];exact gI.2 e.symm
 have:p.x=0:=by
  rcases FK.nz _ _ k0 with h | h <;> exact h
 rw [this] at hodd
 exact absurd hodd (by decide)
theorem kF (p:PT):Rep (cP (rdP (enc p))) p:=by
 obtain ⟨q,h1,h2⟩:=eU (Az p) (gM p)
 rw [←ym h1];rw [ym h1] at h2 ⊢;exact h2
def BP:PT:=⟨cK GX,cK GY,by unfold On DK;decide +kernel⟩
theorem FY:Rep (cP uR) BP:=by
 unfold uR
 rw [yJ]
 exact vI FK BP
theorem Iu:enc BP=GY:=by decide +kernel
theorem yc (p q:PT):addN (enc p) (enc q)=enc (vq p q)∧uT (enc p) (enc q)=0:=by
 unfold addN uT
 rw [gM,gM,Bool.true_and,if_pos rfl,if_pos rfl]
 refine ⟨kZ ?_,rfl⟩
 rw [vn]
 exact mN FK (kF p) (kF q)
theorem xt (p:PT):oI (enc p)=enc p.neg:=by
 unfold oI
 rw [gM,if_pos rfl]
 refine kZ ?_
 rw [Kh]
 exact ya (kF p)
theorem iY (n:Nat) (hn:n<RN) (p:PT):fk n (enc p)=enc (dN n p):=by
 unfold fk
 rw [gM,if_pos rfl]
 exact kZ (iR (kF p) n hn)
theorem sJ (n:Nat) (hn:n<RN):zO n=enc (dN n BP):=kZ (iR FY n hn)
theorem rF (p:PT):ig (enc p)=enc (dN 8 p):=by
 unfold ig
 rw [gM,if_pos rfl]
 refine kZ ?_
 rw [jE,jE,jE]
 show Rep _ (Pt.smul FK 8 p)
 rw [Pt.dbl8]
 exact gU FK (gU FK (gU FK (kF p)))
theorem FN (p:PT):rdE (enc p)=0:=dj (gM p)
end Go.Proofs.YtajehiidpecknaaGreatDoor
namespace Go.Proofs.YtajehiidpecknaaGreatDoor
open Go Go.RowKit
def kW:List Value→Nat
 | []=>0
 | .int _ x :: l=>x.toNat+18446744073709551616*kW l
 | _ :: l=>18446744073709551616*kW l
def bf:Value→Nat
 | .agg cs=>kW cs.toList
 | _=>0
theorem gV {n:Nat} (h:n<RN):kW (nl n)=n:=by
 have e:kW (nl n)=(lw n 0).toNat+18446744073709551616*((lw n 1).toNat+18446744073709551616*((lw n 2).toNat+18446744073709551616*((lw n 3).toNat+18446744073709551616*0))):=rfl
 rw [e]
 unfold lw
 simp only [Int.toNat_natCast]
 have e2:n/18446744073709551616 ^ 2=n/18446744073709551616/18446744073709551616:=by rw [YL]
 have e3:n/18446744073709551616 ^ 3=n/18446744073709551616/18446744073709551616/18446744073709551616:=by rw [YL,YL]
 rw [e2,e3,Nat.pow_zero,Nat.div_one,Nat.pow_one]
 simp only [RN] at h
 omega
theorem aX {n:Nat} (h:n<RN):bf (nv n)=n:=gV h
def IsW (A:Value):Prop:=A=nv (bf A)∧bf A<RN
theorem eV {n:Nat} (h:n<RN):IsW (nv n):=by unfold IsW;rw [aX h];exact ⟨rfl,h⟩
theorem fZ (n:Nat):flat (nv n)=true:=rfl
def rfa (a b:Nat):Nat:=fX (a+b)
def rfs (a b:Nat):Nat:=fX (a+(pp - b % pp))
def rfm (a b:Nat):Nat:=fX (fq (a*b))
def rfi (a:Nat):Nat:=pX a (pp - 2) 256
theorem qg {T:Nat} (h:T/RN<18446744073709551616):fX T<RN:=by
 unfold fX
 have:=Nat.mod_lt T (show 0<RN by decide)
 simp only [RN] at *
 split <;> omega
theorem rD {T:Nat} (h:T/RN<18446744073709551616):fX T % pp=T % pp:=by
 have e:=Nat.div_add_mod T RN
 unfold fX
 have:=Nat.mod_lt T (show 0<RN by decide)
 generalize T/RN=q at *
 generalize T % RN=r at *
 subst e
 simp only [RN,pp] at *
 split <;> omega
theorem fR {a b:Nat} (ha:a<RN) (hb:b<RN):fq (a*b)/RN<18446744073709551616:=by
 have h1:a*b/RN<RN:=by
  rw [Nat.div_lt_iff_lt_mul (by decide)]
  exact Nat.mul_lt_mul'' ha hb
 unfold fq
 have:=Nat.mod_lt (a*b) (show 0<RN by decide)
 generalize a*b/RN=q at *
 generalize a*b % RN=r at *
 simp only [RN] at *
 omega
theorem y8 (n:Nat):fq n % pp=n % pp:=by
 have e:=Nat.div_add_mod n RN
 unfold fq
 generalize n/RN=q at *
 generalize n % RN=r at *
 subst e
 simp only [RN,pp] at *
 omega
theorem xG {a b:Nat} (ha:a<RN) (hb:b<RN):(a+b)/RN<18446744073709551616:=by simp only [RN] at *;omega
theorem sV {a:Nat} (b:Nat) (ha:a<RN):(a+(pp - b % pp))/RN<18446744073709551616:=by simp only [RN,pp] at *;omega
theorem bB {a b:Nat} (ha:a<RN) (hb:b<RN):rfa a b<RN:=qg (xG ha hb)
theorem bO {a:Nat} (b:Nat) (ha:a<RN):rfs a b<RN:=qg (sV b ha)
theorem bE {a b:Nat} (ha:a<RN) (hb:b<RN):rfm a b<RN:=qg (fR ha hb)
theorem Bo {a:Nat} (b:Nat) (ha:a<RN) : ∀ j,pX a b j<RN
 | 0=>by show (1:Nat)<RN;decide
 | j+1=>by
  have ih:=Bo b ha j
  unfold pX
  split
  ·exact qg (fR (qg (fR ih ih)) ha)
  ·exact qg (fR ih ih)
theorem nQ {a:Nat} (ha:a<RN):rfi a<RN:=Bo _ ha 256
theorem mo {a b:Nat} (ha:a<RN) (hb:b<RN):rfm a b % pp=a*b % pp:=by
 unfold rfm;rw [rD (fR ha hb),y8]
theorem AM {a b:Nat} (ha:a<RN) (hb:b<2 ^ 256) : ∀ j,j≤256→pX a b j % pp=a ^ (b/2 ^ (256 - j)) % pp
 | 0,_=>by rw [Nat.sub_zero,Nat.div_eq_of_lt hb,Nat.pow_zero];rfl
 | j+1,hj=>by
  have ih:=AM ha hb j (by omega)
  have hl:=Bo b ha j
  have e1:256 - j=(255 - j)+1:=by omega
  have e2:256 - (j+1)=255 - j:=by omega
  rw [e1] at ih
  rw [e2]
  unfold pX
  split
  ·rename_i h
   exact xZ a b (255 - j) _ _ _ ih (mo hl hl) (mo (bE hl hl) ha) h
  ·rename_i h
   exact qP a b (255 - j) _ _ ih (mo hl hl) (by omega)
theorem jO {a b:Nat} (ha:a<RN) (hb:b<RN):cK (rfa a b)=cK a+cK b:=by
 rw [←CJ];exact gv.2 (by rw [Nat.mod_mod];exact rD (xG ha hb))
theorem jL {a:Nat} (b:Nat) (ha:a<RN):cK (rfs a b)=cK a - cK b:=by
 rw [←Cg];exact gv.2 (by rw [Nat.mod_mod];exact rD (sV b ha))
theorem cY {a b:Nat} (ha:a<RN) (hb:b<RN):cK (rfm a b)=cK a*cK b:=by
 rw [←eY];exact gv.2 (by rw [Nat.mod_mod];exact mo ha hb)
theorem vg {a:Nat} (ha:a<RN):cK (rfi a)=l6 (cK a):=by
 rw [yi]
 refine gv.2 ?_
 rw [Nat.mod_mod]
 have:=AM (b:=pp - 2) ha (by decide) 256 (Nat.le_refl _)
 rw [Nat.sub_self,Nat.pow_zero,Nat.div_one] at this
 exact this
def WA (A B:Value):Value:=nv (rfa (bf A) (bf B))
def WS (A B:Value):Value:=nv (rfs (bf A) (bf B))
def WM (A B:Value):Value:=nv (rfm (bf A) (bf B))
def WI (A:Value):Value:=nv (rfi (bf A))
def WL (A:Value):Value:=nv (bf A % pp)
def gWpl:List Value→Option (List Prop × Value)
 | [A,B]=>some ([IsW A∧IsW B],WA A B)
 | _=>none
theorem GD {X:Cx} (hX:X.Ok Tryz.prog):(X.pure 89 gWpl).Ok Tryz.prog:=by
 refine aC hX Tryz.func89 (by kernel_rfl) (by kernel_rfl) ?_
 intro args ps v ha hg hp
 unfold gWpl at hg
 split at hg
 ·rename_i A B
  simp only [qG,qH] at hg
  obtain ⟨rfl,rfl⟩:=hg
  obtain ⟨hA,hB⟩:=hp _ (YJ.2 rfl)
  refine ⟨.inl (fZ _),fun w => ?_⟩
  have h:Calls Tryz.prog 89 #[nv (bf A),nv (bf B)] w fun e w'=>e = .returned (WA A B)∧Below w.heap.size w w':=(oz (bf A) (bf B) hA.2 hB.2 w).mono fun e w' ⟨z,h1,h2,h3,h4⟩=>⟨by rw [h2,h3.2];rfl,h4⟩
  rw [←hA.1,←hB.1] at h
  exact h
 ·simp at hg
def IP:List Value→Option (List Prop × Value)
 | [A,B]=>some ([IsW A∧IsW B],WS A B)
 | _=>none
theorem E3 {X:Cx} (hX:X.Ok Tryz.prog):(X.pure 86 IP).Ok Tryz.prog:=by
 refine aC hX Tryz.func86 (by kernel_rfl) (by kernel_rfl) ?_
 intro args ps v ha hg hp
 unfold IP at hg
 split at hg
 ·rename_i A B
  simp only [qG,qH] at hg
  obtain ⟨rfl,rfl⟩:=hg
  obtain ⟨hA,hB⟩:=hp _ (YJ.2 rfl)
  refine ⟨.inl (fZ _),fun w => ?_⟩
  have h:Calls Tryz.prog 86 #[nv (bf A),nv (bf B)] w fun e w'=>e = .returned (WS A B)∧Below w.heap.size w w':=(uY (bf A) (bf B) hA.2 hB.2 w).mono fun e w' ⟨z,h1,h2,h3,h4⟩=>⟨by rw [h2,h3.2];rfl,h4⟩
  rw [←hA.1,←hB.1] at h
  exact h
 ·simp at hg
def Jl:List Value→Option (List Prop × Value)
 | [A,B]=>some ([IsW A∧IsW B],WM A B)
 | _=>none
theorem Hd {X:Cx} (hX:X.Ok Tryz.prog):(X.pure 84 Jl).Ok Tryz.prog:=by
 refine aC hX Tryz.func84 (by kernel_rfl) (by kernel_rfl) ?_
 intro args ps v ha hg hp
 unfold Jl at hg
 split at hg
 ·rename_i A B
  simp only [qG,qH] at hg
  obtain ⟨rfl,rfl⟩:=hg
  obtain ⟨hA,hB⟩:=hp _ (YJ.2 rfl)
  refine ⟨.inl (fZ _),fun w => ?_⟩
  have h:Calls Tryz.prog 84 #[nv (bf A),nv (bf B)] w fun e w'=>e = .returned (WM A B)∧Below w.heap.size w w':=(il (bf A) (bf B) hA.2 hB.2 w).mono fun e w' ⟨z,h1,h2,h3,h4⟩=>⟨by rw [h2,h3.2];rfl,h4⟩
  rw [←hA.1,←hB.1] at h
  exact h
 ·simp at hg
def gWin:List Value→Option (List Prop × Value)
 | [A]=>some ([IsW A],WI A)
 | _=>none
theorem EW {X:Cx} (hX:X.Ok Tryz.prog):(X.pure 88 gWin).Ok Tryz.prog:=by
 refine aC hX Tryz.func88 (by kernel_rfl) (by kernel_rfl) ?_
 intro args ps v ha hg hp
 unfold gWin at hg
 split at hg
 ·rename_i A
  simp only [qG,qH] at hg
  obtain ⟨rfl,rfl⟩:=hg
  have hA:=hp _ (YJ.2 rfl)
  refine ⟨.inl (fZ _),fun w => ?_⟩
  have h:Calls Tryz.prog 88 #[nv (bf A)] w fun e w'=>e = .returned (WI A)∧Below w.heap.size w w':=(pe (bf A) hA.2 w).mono fun e w' ⟨z,h1,h2,h3,h4⟩=>⟨by rw [h2,h3.2];rfl,h4⟩
  rw [←hA.1] at h
  exact h
 ·simp at hg
def JR:List Value→Option (List Prop × Value)
 | [A]=>some ([IsW A],WL A)
 | _=>none
theorem GR {X:Cx} (hX:X.Ok Tryz.prog):(X.pure 91 JR).Ok Tryz.prog:=by
 refine aC hX Tryz.func91 (by kernel_rfl) (by kernel_rfl) ?_
 intro args ps v ha hg hp
 unfold JR at hg
 split at hg
 ·rename_i A
  simp only [qG,qH] at hg
  obtain ⟨rfl,rfl⟩:=hg
  have hA:=hp _ (YJ.2 rfl)
  refine ⟨.inl (fZ _),fun w => ?_⟩
  have h:Calls Tryz.prog 91 #[nv (bf A)] w fun e w'=>e = .returned (WL A)∧Below w.heap.size w w':=dr (bf A) hA.2 w
  rw [←hA.1] at h
  exact h
 ·simp at hg
def Ke:List Value→Option (List Prop × Value)
 | [A]=>some ([IsW A],bv (bf A % pp))
 | _=>none
theorem EI {X:Cx} (hX:X.Ok Tryz.prog):(X.pure 92 Ke).Ok Tryz.prog:=by
 refine aC hX Tryz.func92 (by kernel_rfl) (by kernel_rfl) ?_
 intro args ps v ha hg hp
 unfold Ke at hg
 split at hg
 ·rename_i A
  simp only [qG,qH] at hg
  obtain ⟨rfl,rfl⟩:=hg
  have hA:=hp _ (YJ.2 rfl)
  refine ⟨.inl (aE _),fun w => ?_⟩
  have h:Calls Tryz.prog 92 #[nv (bf A)] w fun e w'=>e = .returned (bv (bf A % pp))∧Below w.heap.size w w':=vd (bf A) hA.2 w
  rw [←hA.1] at h
  exact h
 ·simp at hg
def JQ:List Value→Option (List Prop × Value)
 | [A]=>some ([IsB A],nv (aj A))
 | _=>none
theorem Gx {X:Cx} (hX:X.Ok Tryz.prog):(X.pure 83 JQ).Ok Tryz.prog:=by
 refine aC hX Tryz.func83 (by kernel_rfl) (by kernel_rfl) ?_
 intro args ps v ha hg hp
 unfold JQ at hg
 split at hg
 ·rename_i A
  simp only [qG,qH] at hg
  obtain ⟨rfl,rfl⟩:=hg
  have hA:=hp _ (YJ.2 rfl)
  refine ⟨.inl (fZ _),fun w => ?_⟩
  have h:Calls Tryz.prog 83 #[bv (aj A)] w fun e w'=>e = .returned (nv (aj A))∧Below w.heap.size w w':=qy (aj A) (aS hA) w
  rw [← (show A=bv (aj A) from hA)] at h
  exact h
 ·simp at hg
def Jt:List Value→Option (List Prop × Value)
 | [A]=>some ([IsB A],.bool (decide (aj A<pp)))
 | _=>none
theorem Fl {X:Cx} (hX:X.Ok Tryz.prog):(X.pure 82 Jt).Ok Tryz.prog:=by
 refine aC hX Tryz.func82 (by kernel_rfl) (by kernel_rfl) ?_
 intro args ps v ha hg hp
 unfold Jt at hg
 split at hg
 ·rename_i A
  simp only [qG,qH] at hg
  obtain ⟨rfl,rfl⟩:=hg
  have hA:=hp _ (YJ.2 rfl)
  refine ⟨.inl rfl,fun w => ?_⟩
  have h:Calls Tryz.prog 82 #[bv (aj A)] w fun e w'=>e = .returned (.bool (decide (aj A<pp)))∧Below w.heap.size w w':=fg (aj A) (aS hA) w
  rw [← (show A=bv (aj A) from hA)] at h
  exact h
 ·simp at hg
theorem zc (n:Nat) (b:Bool):flat (.tuple #[nv n,.bool b])=true:=rfl
def Ix:List Value→Option (List Prop × Value)
 | [A]=>some ([IsW A],.tuple #[nv (rt (bf A)),.bool (decide (rt (bf A)*rt (bf A) % pp=bf A % pp))])
 | _=>none
theorem Ez {X:Cx} (hX:X.Ok Tryz.prog):(X.pure 85 Ix).Ok Tryz.prog:=by
 refine aC hX Tryz.func85 (by kernel_rfl) (by kernel_rfl) ?_
 intro args ps v ha hg hp
 unfold Ix at hg
 split at hg
 ·rename_i A
  simp only [qG,qH] at hg
  obtain ⟨rfl,rfl⟩:=hg
  have hA:=hp _ (YJ.2 rfl)
  refine ⟨.inl (zc _ _),fun w => ?_⟩
  have h:Calls Tryz.prog 85 #[nv (bf A)] w fun e w'=>e = .returned (.tuple #[nv (rt (bf A)),.bool (decide (rt (bf A)*rt (bf A) % pp=bf A % pp))])∧Below w.heap.size w w':=zy (bf A) hA.2 w
  rw [←hA.1] at h
  exact h
 ·simp at hg
theorem Lw:sfun Tryz.prog Cx.none 60 Tryz.f90 (ag Tryz.f90) []=some ([],nv DN'):=by kernel_rfl
def gWd:List Value→Option (List Prop × Value)
 | []=>some ([],nv DN')
 | _=>none
theorem Jj {X:Cx} (hX:X.Ok Tryz.prog):(X.pure 90 gWd).Ok Tryz.prog:=by
 refine aC hX Tryz.func90 (by kernel_rfl) (by kernel_rfl) ?_
 intro args ps v ha hg hp
 unfold gWd at hg
 split at hg
 ·simp only [qG,qH] at hg
  obtain ⟨rfl,rfl⟩:=hg
  exact ⟨.inl rfl,au Cx.none_ok mixed Tryz.func90 (by kernel_rfl) Lw (by simp) rfl (.inl rfl)⟩
 ·simp at hg
def gWsm:List Value→Option (List Prop × Value)
 | [.int .u64 x]=>some ([],.agg #[.int .u64 x,.int .u64 0,.int .u64 0,.int .u64 0])
 | _=>none
theorem FZ {X:Cx} (hX:X.Ok Tryz.prog):(X.pure 87 gWsm).Ok Tryz.prog:=by
 refine aC hX Tryz.func87 (by kernel_rfl) (by kernel_rfl) ?_
 intro args ps v ha hg hp
 unfold gWsm at hg
 split at hg
 ·rename_i x
  simp only [qG,qH] at hg
  obtain ⟨rfl,rfl⟩:=hg
  exact ⟨.inl rfl,fun w=>od x w⟩
 ·simp at hg
def H0:Cx:=((((((((((Cx.none.pure 89 gWpl).pure 86 IP).pure 84 Jl).pure 88 gWin).pure 91 JR).pure 92 Ke).pure 83 JQ).pure 82 Jt).pure 85 Ix).pure 90 gWd).pure 87 gWsm
theorem nJ:H0.Ok Tryz.prog:=FZ (Jj (Ez (Fl (Gx (EI (GR (EW (Hd (E3 (GD Cx.none_ok))))))))))
end Go.Proofs.YtajehiidpecknaaGreatDoor
