import Derived.Test.YtajehiidpecknaaGreatDoorFieS
import Derived.Test.YtajehiidpecknaaGreatDoorPoiM
import Derived.Test.YtajehiidpecknaaGreatDoorPoiG
import Derived.Test.YtajehiidpecknaaGreatDoorFieRL
set_option linter.all false
namespace Go.Proofs.YtajehiidpecknaaGreatDoor
open Go
def cP (p:P4):E4 KK:=⟨cK p.x,cK p.y,cK p.z,cK p.t⟩
theorem yh (a b:Nat):cK (fad a b)=cK a+cK b:=CK a b
theorem od (a b:Nat):cK (fsb a b)=cK a - cK b:=Ek a b
theorem fZ (a b:Nat):cK (fml a b)=cK a*cK b:=fj a b
theorem xD (a:Nat):cK (fiv a)=my (cK a):=(zv a).symm
theorem Cf (x xu y yu:Nat):cP (nH x xu y yu)=wO (cK x) (cK xu) (cK y) (cK yu):=by
 unfold cP nH wO
 simp only [fZ]
theorem ym (a b:P4):cP (jS a b)=An DK (cP a) (cP b):=by
 unfold jS
 simp only [Cf]
 unfold An cP
 simp only [fZ,yh,od]
 rfl
theorem jO (a:P4):cP (eg a)=JP (cP a):=by
 unfold eg
 simp only [Cf]
 unfold JP cP
 simp only [fZ,yh,od]
theorem Kr (a:P4):cP (wb a)=AY (cP a):=by
 unfold wb AY cP
 simp only [od,km]
theorem EA:cP iC=FO:=by
 unfold iC FO cP
 simp only [km,nx]
theorem yA (x y:Nat):cP (atN x y)=atE (cK x) (cK y):=by
 unfold atN atE cP
 simp only [fZ,nx]
abbrev PT:Type:=Pt DK
abbrev wo (p q:PT):PT:=p.add FK q
abbrev dU (n:Nat) (p:PT):PT:=p.smul FK n
theorem FG {a:P4} {p:PT} (h:Rep (cP a) p):Rep (cP (xM a)) (dU 16 p):=by
 unfold xM
 rw [jO,jO,jO,jO]
 show Rep _ (Pt.smul FK 16 p)
 rw [Pt.dbl16]
 exact gR FK (gR FK (gR FK (gR FK h)))
theorem sr {a:P4} {p:PT} (h:Rep (cP a) p) : ∀ i,Rep (cP (muN a i)) (dU i p)
 | 0=>by
  show Rep (cP iC) (Pt.zero DK)
  rw [EA];exact yE FK
 | i+1=>by
  show Rep (cP (jS (muN a i) a)) ((dU i p).add FK p)
  rw [ym];exact nn FK (sr h i) h
theorem tV {t q:P4} {p:PT} {m d:Nat} (ht:Rep (cP t) (dU m p)) (hq:Rep (cP q) (dU d p)):Rep (cP (il t q)) (dU (16*m+d) p):=by
 unfold il
 rw [ym]
 have:=nn FK (FG ht) hq
 show Rep _ (Pt.smul FK (16*m+d) p)
 rw [Pt.smul_add,Pt.smul_mul]
 exact this
theorem EL {a:P4} {p:PT} (h:Rep (cP a) p) (n:Nat) (hn:n<RN) : ∀ j,j≤32→Rep (cP (tmR a n j)) (dU (n/256 ^ (32 - j)) p)
 | 0,_=>by
  have:n/256 ^ (32 - 0)=0:=Nat.div_eq_of_lt (by rw [Nat.sub_zero];exact YI hn (by decide))
  rw [this]
  exact sr h 0
 | j+1,hj=>by
  have ih:=EL h n hn j (by omega)
  have e:n/256 ^ (32 - (j+1))=16*(16*(n/256 ^ (32 - j))+n/256 ^ (31 - j) % 256/16)+n/256 ^ (31 - j) % 256 % 16:=by
   have e1:32 - j=(31 - j)+1:=by omega
   have e2:32 - (j+1)=31 - j:=by omega
   rw [e1,e2,Nat.pow_succ,←YL]
   generalize n/256 ^ (31 - j)=z
   omega
  rw [e]
  exact tV (tV ih (sr h _)) (sr h _)
theorem gC {a:P4} {p:PT} (h:Rep (cP a) p) (n:Nat) (hn:n<RN):Rep (cP (dA n a)) (dU n p):=by
 have:=EL h n hn 32 (Nat.le_refl _)
 rw [Nat.sub_self,Nat.pow_zero,Nat.div_one] at this
 exact this
def enc (p:PT):Nat:=p.y.val+p.x.val % 2*TT
theorem oy {a:Nat} {k:KK} (h:a<pp) (e:cK a=k):a=k.val:=by
 rw [←e,eG,YK h]
theorem jJ {a:P4} {p:PT} (h:Rep (cP a) p):wrN a=enc p:=by
 obtain ⟨h1,h2,h3,_⟩:=h
 have hz:cK a.z≠0:=h1
 have iv:=FK.inv _ hz
 have hx:cK a.x=p.x*cK a.z:=h2
 have hy:cK a.y=p.y*cK a.z:=h3
 have kx:cK (wx a)=p.x:=by
  unfold wx;rw [fZ,xD,hx]
  have:=gV p.x (cK a.z) (my (cK a.z))
  rw [this,iv,kG]
 have ky:cK (wy a)=p.y:=by
  unfold wy;rw [fZ,xD,hy]
  have:=gV p.y (cK a.z) (my (cK a.z))
  rw [this,iv,kG]
 unfold wrN enc
 rw [←oy (ff _ _) kx,←oy (ff _ _) ky]
 rfl
section
variable {d:KK} {inv:KK→KK}
theorem Jx (F:Fld d inv) (y:KK):1+d*(y*y)≠0:=fun h=>by
 obtain ⟨i,hi⟩:=F.root
 have h0:=F.nsq i y (by grind)
 apply F.one
 grind
theorem EU {x y:KK} (h:On d x y):x*x*(1+d*(y*y))=y*y - 1:=by
 unfold On at h;grind
theorem Bx {x y:KK} (h:x*x*(1+d*(y*y))=y*y - 1):On d x y:=by
 unfold On;grind
theorem LJ {x y:KK} (h:On d x y):On d (0 - x) y:=by unfold On at *;grind
theorem CM (F:Fld d inv) {x y:KK} (h:On d x y):(y*y - 1)*inv (1+d*(y*y))=x*x:=by
 have h1:=EU h
 have h2:=F.inv _ (Jx F y)
 generalize inv (1+d*(y*y))=z at *
 rw [←h1]
 grind
theorem w9 (F:Fld d inv) {x y:KK} (h:x*x=(y*y - 1)*inv (1+d*(y*y))):On d x y:=by
 have h2:=F.inv _ (Jx F y)
 generalize inv (1+d*(y*y))=z at *
 apply Bx
 rw [h]
 grind
theorem LK (F:Fld d inv) {x z:KK} (h:x*x=z*z):x=z∨x=0 - z:=by
 have:(x - z)*(x+z)=0:=by grind
 rcases F.nz _ _ this with h | h
 ·left;grind
 ·right;grind
end
theorem oV (p:PT):enc p % TT=p.y.val:=by
 unfold enc
 rw [Nat.add_mul_mod_self_right]
 exact YK (Nat.lt_trans p.y.isLt fv)
theorem jH (p:PT):enc p/TT=p.x.val % 2:=by
 unfold enc
 rw [Nat.add_mul_div_right _ _ (by decide),Nat.div_eq_of_lt (Nat.lt_trans p.y.isLt fv),Nat.zero_add]
theorem wN (p:PT):enc p<RN:=by
 unfold enc
 have h1:p.y.val<TT:=Nat.lt_trans p.y.isLt fv
 have h3:RN=TT+TT:=by decide
 rcases (by omega:p.x.val % 2=0∨p.x.val % 2=1) with h | h <;> rw [h] <;> omega
theorem Ic (k:KK) (h:k≠0):(0 - k).val=pp - k.val:=by
 have hk:k.val≠0:=fun e=>h (Fin.ext e)
 rw [Fin.sub_def]
 show (pp - k.val+0) % pp=_
 rw [Nat.add_zero]
 have:=k.isLt
 exact YK (by omega)
theorem CP:pp % 2=1:=by decide
theorem yJ {p q:PT} (h:enc p=enc q):p=q:=by
 have hy:p.y=q.y:=Fin.ext (by rw [←oV,←oV,h])
 have ho:p.x.val % 2=q.x.val % 2:=by rw [←jH,←jH,h]
 have h1:=CM FK p.on
 have h2:=CM FK q.on
 rw [hy,h2] at h1
 rcases LK FK h1.symm with e | e
 ·exact Pt.ext' e hy
 ·by_cases h0:q.x=0
  ·refine Pt.ext' ?_ hy
   rw [e,h0];rfl
  ·exfalso
   have:=Ic q.x h0
   rw [e,this] at ho
   have hl:=q.x.isLt
   have:=CP
   omega
theorem CF (y:Nat):cK (sxN y)=(cK y*cK y - 1)*my (1+DK*(cK y*cK y)):=by
 unfold sxN
 rw [fZ,od,fZ,xD,yh,fZ,fZ,nx]
 rfl
theorem iA {s:Nat} : sqe s=0↔rt s*rt s % pp=s % pp:=by
 unfold sqe
 split
 ·rename_i h;exact ⟨fun _=>h,fun _=>rfl⟩
 ·rename_i h;exact ⟨fun e=>absurd e (by decide),fun e=>absurd e h⟩
theorem oq (n:Nat):a8 n=true↔n % TT<pp∧sqe (sxN (n % TT))=0 ∧ ¬ (TT≤n∧eJ n=0):=by
 unfold a8 iz
 simp only [Bool.and_eq_true,decide_eq_true_eq,Bool.not_eq_true',Bool.and_eq_false_iff,decide_eq_false_iff_not]
 constructor
 ·rintro ⟨h1,h2,h3⟩
  exact ⟨h1,h2,fun ⟨a,b⟩=>by rcases h3 with h | h;exact h a;exact h b⟩
 ·rintro ⟨h1,h2,h3⟩
  refine ⟨h1,h2,?_⟩
  by_cases ht:TT≤n
  ·exact .inr fun e=>h3 ⟨ht,e⟩
  ·exact .inl ht
theorem ft {n:Nat} (hn:n<RN) (h:a8 n=true) : ∃ p:PT,enc p=n∧Rep (cP (rdP n)) p:=by
 obtain ⟨h1,h2,h3⟩:=(oq n).1 h
 have hs:=iA.1 h2
 have hr:eJ n=ev (rt (sxN (n % TT))):=by
  unfold eJ sqv;rw [if_pos hs]
 have lt:=yw (sxN (n % TT))
 have hr1:eJ n<pp:=by rw [hr];exact Mv _ lt
 have hr2:eJ n % 2=0:=by rw [hr];exact Ho _ lt
 have hr3:eJ n*eJ n % pp=sxN (n % TT) % pp:=by rw [hr,Jf _ lt,hs]
 have hK:cK (eJ n)*cK (eJ n)=(cK (n % TT)*cK (n % TT) - 1)*my (1+DK*(cK (n % TT)*cK (n % TT))):=by
  rw [←CF,←fj,hr3,oz]
 have on0:=w9 FK hK
 have onx:On DK (cK (rdX n)) (cK (n % TT)):=by
  unfold rdX
  split
  ·rw [od,km];exact LJ on0
  ·exact on0
 refine ⟨⟨cK (rdX n),cK (n % TT),onx⟩,?_,?_⟩
 ·unfold enc
  simp only
  have hxl:rdX n<pp:=by
   unfold rdX
   split
   ·exact rZ _ _
   ·exact hr1
  rw [eG,eG,YK h1,YK hxl]
  have h4:RN=TT+TT:=by decide
  by_cases ht:TT≤n
  ·have hz : ¬ eJ n=0:=fun e=>h3 ⟨ht,e⟩
   have e1:rdX n=pp - eJ n:=by
    unfold rdX iz
    rw [decide_eq_true ht,if_pos rfl]
    unfold fsb
    rw [Nat.zero_add,YK hr1,YK (by omega)]
   have:=CP
   have e2:rdX n % 2=1:=by rw [e1];omega
   rw [e2,Nat.one_mul]
   have:n % TT=n - TT:=by rw [Nat.mod_eq_sub_mod ht,YK (by omega)]
   omega
  ·have e1:rdX n=eJ n:=by
    unfold rdX iz
    rw [decide_eq_false ht,if_neg Bool.false_ne_true]
   rw [e1,hr2,Nat.zero_mul,Nat.add_zero]
   exact YK (by omega)
 ·unfold rdP
  rw [h,if_pos rfl,yA]
  exact vW FK (⟨cK (rdX n),cK (n % TT),onx⟩:PT)
theorem fV (p:PT):a8 (enc p)=true:=by
 have hy:=oV p
 have ky:cK (enc p % TT)=p.y:=by rw [hy];exact vu _
 have ks:cK (sxN (enc p % TT))=p.x*p.x:=by rw [CF,ky];exact CM FK p.on
 have hs:sxN (enc p % TT)=p.x.val*p.x.val % pp:=by
  have:=oy (ff _ _) ks
  rw [Fin.val_mul] at this
  exact this
 have hr:=Hr p.x.val _ hs
 rw [oq]
 refine ⟨by rw [hy];exact p.y.isLt,iA.2 hr,?_⟩
 rintro ⟨ht,hz⟩
 have hodd:p.x.val % 2=1:=by
  rw [←jH]
  have h4:RN=TT*2:=by decide
  have hl:=wN p
  have h1:enc p/TT<2:=by rw [Nat.div_lt_iff_lt_mul (by decide)];omega
  have h2:1≤enc p/TT:=by rw [Nat.le_div_iff_mul_le (by decide)];omega
  omega
 have hz':ev (rt (sxN (enc p % TT)))=0:=by
  unfold eJ sqv at hz
  rw [if_pos hr] at hz
  exact hz
 have e:=Jf _ (yw (sxN (enc p % TT)))
 rw [hz',hr,Nat.mul_zero,Nat.zero_mod] at e
 have k0:p.x*p.x=0:=by rw [←ks];exact ie.2 e.symm
 have:p.x=0:=by
  rcases FK.nz _ _ k0 with h | h <;> exact h
 rw [this] at hodd
 exact absurd hodd (by decide)
theorem jP (p:PT):Rep (cP (rdP (enc p))) p:=by
 obtain ⟨q,h1,h2⟩:=ft (wN p) (fV p)
 rw [←yJ h1];rw [yJ h1] at h2 ⊢;exact h2
def BP:PT:=⟨cK GX,cK GY,by unfold On DK;decide +kernel⟩
theorem Gi:Rep (cP uS) BP:=by
 unfold uS
 rw [yA]
 exact vW FK BP
theorem D5:enc BP=GY:=by decide +kernel
theorem zg (p q:PT):addN (enc p) (enc q)=enc (wo p q)∧vf (enc p) (enc q)=0:=by
 unfold addN vf
 rw [fV,fV,Bool.true_and,if_pos rfl,if_pos rfl]
 refine ⟨jJ ?_,rfl⟩
 rw [ym]
 exact nn FK (jP p) (jP q)
theorem zw (p:PT):pc (enc p)=enc p.neg:=by
 unfold pc
 rw [fV,if_pos rfl]
 refine jJ ?_
 rw [Kr]
 exact zk (jP p)
theorem jd (n:Nat) (hn:n<RN) (p:PT):fx n (enc p)=enc (dU n p):=by
 unfold fx
 rw [fV,if_pos rfl]
 exact jJ (gC (jP p) n hn)
theorem mE (n:Nat) (hn:n<RN):sG n=enc (dU n BP):=jJ (gC Gi n hn)
theorem rO (p:PT):iq (enc p)=enc (dU 8 p):=by
 unfold iq
 rw [fV,if_pos rfl]
 refine jJ ?_
 rw [jO,jO,jO]
 show Rep _ (Pt.smul FK 8 p)
 rw [Pt.dbl8]
 exact gR FK (gR FK (gR FK (jP p)))
theorem GF (p:PT):rdE (enc p)=0:=dr (fV p)
end Go.Proofs.YtajehiidpecknaaGreatDoor
namespace Go.Proofs.YtajehiidpecknaaGreatDoor
open Go Go.RowKit
def lu:List Value→Nat
 | []=>0
 | .int _ x :: l=>x.toNat+18446744073709551616*lu l
 | _ :: l=>18446744073709551616*lu l
def bg:Value→Nat
 | .agg cs=>lu cs.toList
 | _=>0
theorem gZ {n:Nat} (h:n<RN):lu (nl n)=n:=by
 have e:lu (nl n)=(lw n 0).toNat+18446744073709551616*((lw n 1).toNat+18446744073709551616*((lw n 2).toNat+18446744073709551616*((lw n 3).toNat+18446744073709551616*0))):=rfl
 rw [e]
 unfold lw
 simp only [Int.toNat_natCast]
 have e2:n/18446744073709551616 ^ 2=n/18446744073709551616/18446744073709551616:=by rw [YL]
 have e3:n/18446744073709551616 ^ 3=n/18446744073709551616/18446744073709551616/18446744073709551616:=by rw [YL,YL]
 rw [e2,e3,Nat.pow_zero,Nat.div_one,Nat.pow_one]
 simp only [RN] at h
 omega
theorem aY {n:Nat} (h:n<RN):bg (nv n)=n:=gZ h
def IsW (A:Value):Prop:=A=nv (bg A)∧bg A<RN
theorem fl {n:Nat} (h:n<RN):IsW (nv n):=by unfold IsW;rw [aY h];exact ⟨rfl,h⟩
theorem gf (n:Nat):flat (nv n)=true:=rfl
def rfa (a b:Nat):Nat:=fX (a+b)
def rfs (a b:Nat):Nat:=fX (a+(pp - b % pp))
def rfm (a b:Nat):Nat:=fX (fO (a*b))
def rfi (a:Nat):Nat:=pX a (pp - 2) 256
theorem qe {T:Nat} (h:T/RN<18446744073709551616):fX T<RN:=by
 unfold fX
 have:=Nat.mod_lt T (show 0<RN by decide)
 simp only [RN] at *
 split <;> omega
theorem r8 {T:Nat} (h:T/RN<18446744073709551616):fX T % pp=T % pp:=by
 have e:=Nat.div_add_mod T RN
 unfold fX
 have:=Nat.mod_lt T (show 0<RN by decide)
 generalize T/RN=q at *
 generalize T % RN=r at *
 subst e
 simp only [RN,pp] at *
 split <;> omega
theorem gw {a b:Nat} (ha:a<RN) (hb:b<RN):fO (a*b)/RN<18446744073709551616:=by
 have h1:a*b/RN<RN:=by
  rw [Nat.div_lt_iff_lt_mul (by decide)]
  exact Nat.mul_lt_mul'' ha hb
 unfold fO
 have:=Nat.mod_lt (a*b) (show 0<RN by decide)
 generalize a*b/RN=q at *
 generalize a*b % RN=r at *
 simp only [RN] at *
 omega
theorem Ba (n:Nat):fO n % pp=n % pp:=by
 have e:=Nat.div_add_mod n RN
 unfold fO
 generalize n/RN=q at *
 generalize n % RN=r at *
 subst e
 simp only [RN,pp] at *
 omega
theorem yz {a b:Nat} (ha:a<RN) (hb:b<RN):(a+b)/RN<18446744073709551616:=by simp only [RN] at *;omega
theorem sJ {a:Nat} (b:Nat) (ha:a<RN):(a+(pp - b % pp))/RN<18446744073709551616:=by simp only [RN,pp] at *;omega
theorem bE {a b:Nat} (ha:a<RN) (hb:b<RN):rfa a b<RN:=qe (yz ha hb)
theorem bT {a:Nat} (b:Nat) (ha:a<RN):rfs a b<RN:=qe (sJ b ha)
theorem bI {a b:Nat} (ha:a<RN) (hb:b<RN):rfm a b<RN:=qe (gw ha hb)
theorem Ct {a:Nat} (b:Nat) (ha:a<RN) : ∀ j,pX a b j<RN
 | 0=>by show (1:Nat)<RN;decide
 | j+1=>by
  have ih:=Ct b ha j
  unfold pX
  split
  ·exact qe (gw (qe (gw ih ih)) ha)
  ·exact qe (gw ih ih)
theorem ou {a:Nat} (ha:a<RN):rfi a<RN:=Ct _ ha 256
theorem mM {a b:Nat} (ha:a<RN) (hb:b<RN):rfm a b % pp=a*b % pp:=by
 unfold rfm;rw [r8 (gw ha hb),Ba]
theorem C9 {a b:Nat} (ha:a<RN) (hb:b<2 ^ 256) : ∀ j,j≤256→pX a b j % pp=a ^ (b/2 ^ (256 - j)) % pp
 | 0,_=>by rw [Nat.sub_zero,Nat.div_eq_of_lt hb,Nat.pow_zero];rfl
 | j+1,hj=>by
  have ih:=C9 ha hb j (by omega)
  have hl:=Ct b ha j
  have e1:256 - j=(255 - j)+1:=by omega
  have e2:256 - (j+1)=255 - j:=by omega
  rw [e1] at ih
  rw [e2]
  unfold pX
  split
  ·rename_i h
   exact yF a b (255 - j) _ _ _ ih (mM hl hl) (mM (bI hl hl) ha) h
  ·rename_i h
   exact rH a b (255 - j) _ _ ih (mM hl hl) (by omega)
theorem j5 {a b:Nat} (ha:a<RN) (hb:b<RN):cK (rfa a b)=cK a+cK b:=by
 rw [←CK];exact gA.2 (by rw [Nat.mod_mod];exact r8 (yz ha hb))
theorem jX {a:Nat} (b:Nat) (ha:a<RN):cK (rfs a b)=cK a - cK b:=by
 rw [←Ek];exact gA.2 (by rw [Nat.mod_mod];exact r8 (sJ b ha))
theorem di {a b:Nat} (ha:a<RN) (hb:b<RN):cK (rfm a b)=cK a*cK b:=by
 rw [←fj];exact gA.2 (by rw [Nat.mod_mod];exact mM ha hb)
theorem xi {a:Nat} (ha:a<RN):cK (rfi a)=my (cK a):=by
 rw [zv]
 refine gA.2 ?_
 rw [Nat.mod_mod]
 have:=C9 (b:=pp - 2) ha (by decide) 256 (Nat.le_refl _)
 rw [Nat.sub_self,Nat.pow_zero,Nat.div_one] at this
 exact this
def WA (A B:Value):Value:=nv (rfa (bg A) (bg B))
def WS (A B:Value):Value:=nv (rfs (bg A) (bg B))
def WM (A B:Value):Value:=nv (rfm (bg A) (bg B))
def WI (A:Value):Value:=nv (rfi (bg A))
def WL (A:Value):Value:=nv (bg A % pp)
def gWpl:List Value→Option (List Prop × Value)
 | [A,B]=>some ([IsW A∧IsW B],WA A B)
 | _=>none
theorem Iw {X:Cx} (hX:X.Ok Tryz.prog):(X.pure 89 gWpl).Ok Tryz.prog:=by
 refine aA hX Tryz.func89 (by kernel_rfl) (by kernel_rfl) ?_
 intro args ps v ha hg hp
 unfold gWpl at hg
 split at hg
 ·rename_i A B
  simp only [qG,qH] at hg
  obtain ⟨rfl,rfl⟩:=hg
  obtain ⟨hA,hB⟩:=hp _ (YJ.2 rfl)
  refine ⟨.inl (gf _),fun w => ?_⟩
  have h:Calls Tryz.prog 89 #[nv (bg A),nv (bg B)] w fun e w'=>e = .returned (WA A B)∧Below w.heap.size w w':=(nW (bg A) (bg B) hA.2 hB.2 w).mono fun e w' ⟨z,h1,h2,h3,h4⟩=>⟨by rw [h2,h3.2];rfl,h4⟩
  rw [←hA.1,←hB.1] at h
  exact h
 ·simp at hg
def Ka:List Value→Option (List Prop × Value)
 | [A,B]=>some ([IsW A∧IsW B],WS A B)
 | _=>none
theorem Hk {X:Cx} (hX:X.Ok Tryz.prog):(X.pure 86 Ka).Ok Tryz.prog:=by
 refine aA hX Tryz.func86 (by kernel_rfl) (by kernel_rfl) ?_
 intro args ps v ha hg hp
 unfold Ka at hg
 split at hg
 ·rename_i A B
  simp only [qG,qH] at hg
  obtain ⟨rfl,rfl⟩:=hg
  obtain ⟨hA,hB⟩:=hp _ (YJ.2 rfl)
  refine ⟨.inl (gf _),fun w => ?_⟩
  have h:Calls Tryz.prog 86 #[nv (bg A),nv (bg B)] w fun e w'=>e = .returned (WS A B)∧Below w.heap.size w w':=(uh (bg A) (bg B) hA.2 hB.2 w).mono fun e w' ⟨z,h1,h2,h3,h4⟩=>⟨by rw [h2,h3.2];rfl,h4⟩
  rw [←hA.1,←hB.1] at h
  exact h
 ·simp at hg
def Lx:List Value→Option (List Prop × Value)
 | [A,B]=>some ([IsW A∧IsW B],WM A B)
 | _=>none
theorem IX {X:Cx} (hX:X.Ok Tryz.prog):(X.pure 84 Lx).Ok Tryz.prog:=by
 refine aA hX Tryz.func84 (by kernel_rfl) (by kernel_rfl) ?_
 intro args ps v ha hg hp
 unfold Lx at hg
 split at hg
 ·rename_i A B
  simp only [qG,qH] at hg
  obtain ⟨rfl,rfl⟩:=hg
  obtain ⟨hA,hB⟩:=hp _ (YJ.2 rfl)
  refine ⟨.inl (gf _),fun w => ?_⟩
  have h:Calls Tryz.prog 84 #[nv (bg A),nv (bg B)] w fun e w'=>e = .returned (WM A B)∧Below w.heap.size w w':=(iV (bg A) (bg B) hA.2 hB.2 w).mono fun e w' ⟨z,h1,h2,h3,h4⟩=>⟨by rw [h2,h3.2];rfl,h4⟩
  rw [←hA.1,←hB.1] at h
  exact h
 ·simp at hg
def gWin:List Value→Option (List Prop × Value)
 | [A]=>some ([IsW A],WI A)
 | _=>none
theorem Gu {X:Cx} (hX:X.Ok Tryz.prog):(X.pure 88 gWin).Ok Tryz.prog:=by
 refine aA hX Tryz.func88 (by kernel_rfl) (by kernel_rfl) ?_
 intro args ps v ha hg hp
 unfold gWin at hg
 split at hg
 ·rename_i A
  simp only [qG,qH] at hg
  obtain ⟨rfl,rfl⟩:=hg
  have hA:=hp _ (YJ.2 rfl)
  refine ⟨.inl (gf _),fun w => ?_⟩
  have h:Calls Tryz.prog 88 #[nv (bg A)] w fun e w'=>e = .returned (WI A)∧Below w.heap.size w w':=(pz (bg A) hA.2 w).mono fun e w' ⟨z,h1,h2,h3,h4⟩=>⟨by rw [h2,h3.2];rfl,h4⟩
  rw [←hA.1] at h
  exact h
 ·simp at hg
def KS:List Value→Option (List Prop × Value)
 | [A]=>some ([IsW A],WL A)
 | _=>none
theorem IG {X:Cx} (hX:X.Ok Tryz.prog):(X.pure 91 KS).Ok Tryz.prog:=by
 refine aA hX Tryz.func91 (by kernel_rfl) (by kernel_rfl) ?_
 intro args ps v ha hg hp
 unfold KS at hg
 split at hg
 ·rename_i A
  simp only [qG,qH] at hg
  obtain ⟨rfl,rfl⟩:=hg
  have hA:=hp _ (YJ.2 rfl)
  refine ⟨.inl (gf _),fun w => ?_⟩
  have h:Calls Tryz.prog 91 #[nv (bg A)] w fun e w'=>e = .returned (WL A)∧Below w.heap.size w w':=dv (bg A) hA.2 w
  rw [←hA.1] at h
  exact h
 ·simp at hg
def Lu:List Value→Option (List Prop × Value)
 | [A]=>some ([IsW A],bv (bg A % pp))
 | _=>none
theorem Gx {X:Cx} (hX:X.Ok Tryz.prog):(X.pure 92 Lu).Ok Tryz.prog:=by
 refine aA hX Tryz.func92 (by kernel_rfl) (by kernel_rfl) ?_
 intro args ps v ha hg hp
 unfold Lu at hg
 split at hg
 ·rename_i A
  simp only [qG,qH] at hg
  obtain ⟨rfl,rfl⟩:=hg
  have hA:=hp _ (YJ.2 rfl)
  refine ⟨.inl (aB _),fun w => ?_⟩
  have h:Calls Tryz.prog 92 #[nv (bg A)] w fun e w'=>e = .returned (bv (bg A % pp))∧Below w.heap.size w w':=wg (bg A) hA.2 w
  rw [←hA.1] at h
  exact h
 ·simp at hg
def JV:List Value→Option (List Prop × Value)
 | [A]=>some ([IsB A],nv (ai A))
 | _=>none
theorem Hx {X:Cx} (hX:X.Ok Tryz.prog):(X.pure 83 JV).Ok Tryz.prog:=by
 refine aA hX Tryz.func83 (by kernel_rfl) (by kernel_rfl) ?_
 intro args ps v ha hg hp
 unfold JV at hg
 split at hg
 ·rename_i A
  simp only [qG,qH] at hg
  obtain ⟨rfl,rfl⟩:=hg
  have hA:=hp _ (YJ.2 rfl)
  refine ⟨.inl (gf _),fun w => ?_⟩
  have h:Calls Tryz.prog 83 #[bv (ai A)] w fun e w'=>e = .returned (nv (ai A))∧Below w.heap.size w w':=qM (ai A) (aT hA) w
  rw [← (show A=bv (ai A) from hA)] at h
  exact h
 ·simp at hg
def LC:List Value→Option (List Prop × Value)
 | [A]=>some ([IsB A],.bool (decide (ai A<pp)))
 | _=>none
theorem Ii {X:Cx} (hX:X.Ok Tryz.prog):(X.pure 82 LC).Ok Tryz.prog:=by
 refine aA hX Tryz.func82 (by kernel_rfl) (by kernel_rfl) ?_
 intro args ps v ha hg hp
 unfold LC at hg
 split at hg
 ·rename_i A
  simp only [qG,qH] at hg
  obtain ⟨rfl,rfl⟩:=hg
  have hA:=hp _ (YJ.2 rfl)
  refine ⟨.inl rfl,fun w => ?_⟩
  have h:Calls Tryz.prog 82 #[bv (ai A)] w fun e w'=>e = .returned (.bool (decide (ai A<pp)))∧Below w.heap.size w w':=fe (ai A) (aT hA) w
  rw [← (show A=bv (ai A) from hA)] at h
  exact h
 ·simp at hg
theorem zM (n:Nat) (b:Bool):flat (.tuple #[nv n,.bool b])=true:=rfl
def Ki:List Value→Option (List Prop × Value)
 | [A]=>some ([IsW A],.tuple #[nv (rt (bg A)),.bool (decide (rt (bg A)*rt (bg A) % pp=bg A % pp))])
 | _=>none
theorem IZ {X:Cx} (hX:X.Ok Tryz.prog):(X.pure 85 Ki).Ok Tryz.prog:=by
 refine aA hX Tryz.func85 (by kernel_rfl) (by kernel_rfl) ?_
 intro args ps v ha hg hp
 unfold Ki at hg
 split at hg
 ·rename_i A
  simp only [qG,qH] at hg
  obtain ⟨rfl,rfl⟩:=hg
  have hA:=hp _ (YJ.2 rfl)
  refine ⟨.inl (zM _ _),fun w => ?_⟩
  have h:Calls Tryz.prog 85 #[nv (bg A)] w fun e w'=>e = .returned (.tuple #[nv (rt (bg A)),.bool (decide (rt (bg A)*rt (bg A) % pp=bg A % pp))])∧Below w.heap.size w w':=zW (bg A) hA.2 w
  rw [←hA.1] at h
  exact h
 ·simp at hg
theorem MC:sfun Tryz.prog Cx.none 60 Tryz.f90 (ag Tryz.f90) []=some ([],nv DN'):=by kernel_rfl
def gWd:List Value→Option (List Prop × Value)
 | []=>some ([],nv DN')
 | _=>none
theorem KT {X:Cx} (hX:X.Ok Tryz.prog):(X.pure 90 gWd).Ok Tryz.prog:=by
 refine aA hX Tryz.func90 (by kernel_rfl) (by kernel_rfl) ?_
 intro args ps v ha hg hp
 unfold gWd at hg
 split at hg
 ·simp only [qG,qH] at hg
  obtain ⟨rfl,rfl⟩:=hg
  exact ⟨.inl rfl,aq Cx.none_ok mixed Tryz.func90 (by kernel_rfl) MC (by simp) rfl (.inl rfl)⟩
 ·simp at hg
def gWsm:List Value→Option (List Prop × Value)
 | [.int .u64 x]=>some ([],.agg #[.int .u64 x,.int .u64 0,.int .u64 0,.int .u64 0])
 | _=>none
theorem IF {X:Cx} (hX:X.Ok Tryz.prog):(X.pure 87 gWsm).Ok Tryz.prog:=by
 refine aA hX Tryz.func87 (by kernel_rfl) (by kernel_rfl) ?_
 intro args ps v ha hg hp
 unfold gWsm at hg
 split at hg
 ·rename_i x
  simp only [qG,qH] at hg
  obtain ⟨rfl,rfl⟩:=hg
  exact ⟨.inl rfl,fun w=>nt x w⟩
 ·simp at hg
def H0:Cx:=((((((((((Cx.none.pure 89 gWpl).pure 86 Ka).pure 84 Lx).pure 88 gWin).pure 91 KS).pure 92 Lu).pure 83 JV).pure 82 LC).pure 85 Ki).pure 90 gWd).pure 87 gWsm
theorem ns:H0.Ok Tryz.prog:=IF (KT (IZ (Ii (Hx (Gx (IG (Gu (IX (Hk (Iw Cx.none_ok))))))))))
end Go.Proofs.YtajehiidpecknaaGreatDoor
