/- What package point's calls answer, in the curve's group. -/
import Derived.Test.YtajehiidpecknaaGreatDoorFieT
import Derived.Test.YtajehiidpecknaaGreatDoorPoiM
import Derived.Test.YtajehiidpecknaaGreatDoorPoiG
import Derived.Test.YtajehiidpecknaaGreatDoorFieRL
set_option linter.all false
namespace Go.Proofs.YtajehiidpecknaaGreatDoor
open Go
def cP (p:P4):E4 KK:=⟨cK p.x,cK p.y,cK p.z,cK p.t⟩
theorem uv (a b:Nat):cK (fad a b)=cK a+cK b:=Ck a b
theorem qo (a b:Nat):cK (fsb a b)=cK a - cK b:=zK a b
theorem fe (a b:Nat):cK (fml a b)=cK a*cK b:=ep a b
theorem tQ (a:Nat):cK (fiv a)=kO (cK a):=(vL a).symm
theorem zL (x xu y yu:Nat):cP (lR x xu y yu)=uI (cK x) (cK xu) (cK y) (cK yu):=by
 unfold cP lR uI
 simp only [fe]
theorem AA (a b:P4):cP (ji a b)=yo DK (cP a) (cP b):=by
 unfold ji
 simp only [zL]
 unfold yo cP
 simp only [fe,uv,qo]
 rfl
theorem iU (a:P4):cP (dD a)=Iq (cP a):=by
 unfold dD
 simp only [zL]
 unfold Iq cP
 simp only [fe,uv,qo]
theorem zn:cP gO=Dh:=by
 unfold gO Dh cP
 simp only [qN,lO]
theorem wa (x y:Nat):cP (atN x y)=atE (cK x) (cK y):=by
 unfold atN atE cP
 simp only [fe,lO]
abbrev PT:Type:=Pt DK
abbrev yO (p q:PT):PT:=p.add FK q
abbrev eA (n:Nat) (p:PT):PT:=p.smul FK n
theorem DO {a:P4} {p:PT} (h:Rep (cP a) p):Rep (cP (ux a)) (eA 16 p):=by
 unfold ux
 rw [iU,iU,iU,iU]
 show Rep _ (Pt.smul FK 16 p)
 rw [Pt.dbl16]
 exact gE FK (gE FK (gE FK (gE FK h)))
theorem qT {a:P4} {p:PT} (h:Rep (cP a) p) : ∀ i,Rep (cP (muN a i)) (eA i p)
 | 0=>by
  show Rep (cP gO) (Pt.zero DK)
  rw [zn];exact wK FK
 | i+1=>by
  show Rep (cP (ji (muN a i) a)) ((eA i p).add FK p)
  rw [AA];exact qL FK (qT h i) h
theorem sW {t q:P4} {p:PT} {m d:Nat} (ht:Rep (cP t) (eA m p)) (hq:Rep (cP q) (eA d p)):Rep (cP (gJ t q)) (eA (16*m+d) p):=by
 unfold gJ
 rw [AA]
 have:=qL FK (DO ht) hq
 show Rep _ (Pt.smul FK (16*m+d) p)
 rw [Pt.smul_add,Pt.smul_mul]
 exact this
theorem Bv {a:P4} {p:PT} (h:Rep (cP a) p) (n:Nat) (hn:n<RN) : ∀ j,j≤32→Rep (cP (tmR a n j)) (eA (n/256 ^ (32 - j)) p)
 | 0,_=>by
  have:n/256 ^ (32 - 0)=0:=Nat.div_eq_of_lt (by rw [Nat.sub_zero];exact Nat.lt_of_lt_of_le hn (by decide))
  rw [this]
  exact qT h 0
 | j+1,hj=>by
  have ih:=Bv h n hn j (by omega)
  have e:n/256 ^ (32 - (j+1))=16*(16*(n/256 ^ (32 - j))+n/256 ^ (31 - j) % 256/16)+n/256 ^ (31 - j) % 256 % 16:=by
   have e1:32 - j=(31 - j)+1:=by omega
   have e2:32 - (j+1)=31 - j:=by omega
   rw [e1,e2,Nat.pow_succ,←Nat.div_div_eq_div_mul]
   generalize n/256 ^ (31 - j)=z
   omega
  rw [e]
  exact sW (sW ih (qT h _)) (qT h _)
theorem fS {a:P4} {p:PT} (h:Rep (cP a) p) (n:Nat) (hn:n<RN):Rep (cP (dx n a)) (eA n p):=by
 have:=Bv h n hn 32 (Nat.le_refl _)
 rw [Nat.sub_self,Nat.pow_zero,Nat.div_one] at this
 exact this
def enc (p:PT):Nat:=p.y.val+p.x.val % 2*TT
theorem mz {a:Nat} {k:KK} (h:a<pp) (e:cK a=k):a=k.val:=by
 rw [←e,dJ,Nat.mod_eq_of_lt h]
theorem mK {a:P4} {p:PT} (h:Rep (cP a) p):wrN a=enc p:=by
 obtain ⟨h1,h2,h3,_⟩:=h
 have hz:cK a.z≠0:=h1
 have iv:=FK.inv _ hz
 have hx:cK a.x=p.x*cK a.z:=h2
 have hy:cK a.y=p.y*cK a.z:=h3
 have kx:cK (wx a)=p.x:=by
  unfold wx;rw [fe,tQ,hx]
  have:=gh p.x (cK a.z) (kO (cK a.z))
  rw [this,iv,jK]
 have ky:cK (wy a)=p.y:=by
  unfold wy;rw [fe,tQ,hy]
  have:=gh p.y (cK a.z) (kO (cK a.z))
  rw [this,iv,jK]
 unfold wrN enc
 rw [←mz (eF _ _) kx,←mz (eF _ _) ky]
 rfl
section
variable {d:KK} {inv:KK→KK}
theorem Fz (F:Fld d inv) (y:KK):1+d*(y*y)≠0:=fun h=>by
 obtain ⟨i,hi⟩:=F.root
 have h0:=F.nsq i y (by grind)
 apply F.one
 grind
theorem zX {x y:KK} (h:On d x y):x*x*(1+d*(y*y))=y*y - 1:=by
 unfold On at h;grind
theorem zA {x y:KK} (h:x*x*(1+d*(y*y))=y*y - 1):On d x y:=by
 unfold On;grind
theorem Gt {x y:KK} (h:On d x y):On d (0 - x) y:=by unfold On at *;grind
theorem AJ (F:Fld d inv) {x y:KK} (h:On d x y):(y*y - 1)*inv (1+d*(y*y))=x*x:=by
 have h1:=zX h
 have h2:=F.inv _ (Fz F y)
 generalize inv (1+d*(y*y))=z at *
 rw [←h1]
 grind
theorem tN (F:Fld d inv) {x y:KK} (h:x*x=(y*y - 1)*inv (1+d*(y*y))):On d x y:=by
 have h2:=F.inv _ (Fz F y)
 generalize inv (1+d*(y*y))=z at *
 apply zA
 rw [h]
 grind
theorem Gv (F:Fld d inv) {x z:KK} (h:x*x=z*z):x=z∨x=0 - z:=by
 have:(x - z)*(x+z)=0:=by grind
 rcases F.nz _ _ this with h | h
 ·left;grind
 ·right;grind
end
theorem m8 (p:PT):enc p % TT=p.y.val:=by
 unfold enc
 rw [Nat.add_mul_mod_self_right]
 exact Nat.mod_eq_of_lt (Nat.lt_trans p.y.isLt fW)
theorem iZ (p:PT):enc p/TT=p.x.val % 2:=by
 unfold enc
 rw [Nat.add_mul_div_right _ _ (by decide),Nat.div_eq_of_lt (Nat.lt_trans p.y.isLt fW),Nat.zero_add]
theorem vv (p:PT):enc p<RN:=by
 unfold enc
 have h1:p.y.val<TT:=Nat.lt_trans p.y.isLt fW
 have h3:RN=TT+TT:=by decide
 rcases (by omega:p.x.val % 2=0∨p.x.val % 2=1) with h | h <;> rw [h] <;> omega
theorem DU (k:KK) (h:k≠0):(0 - k).val=pp - k.val:=by
 have hk:k.val≠0:=fun e=>h (Fin.ext e)
 rw [Fin.sub_def]
 show (pp - k.val+0) % pp=_
 rw [Nat.add_zero]
 have:=k.isLt
 exact Nat.mod_eq_of_lt (by omega)
theorem zz:pp % 2=1:=by decide
theorem w8 {p q:PT} (h:enc p=enc q):p=q:=by
 have hy:p.y=q.y:=Fin.ext (by rw [←m8,←m8,h])
 have ho:p.x.val % 2=q.x.val % 2:=by rw [←iZ,←iZ,h]
 have h1:=AJ FK p.on
 have h2:=AJ FK q.on
 rw [hy,h2] at h1
 rcases Gv FK h1.symm with e | e
 ·exact Pt.ext' e hy
 ·by_cases h0:q.x=0
  ·refine Pt.ext' ?_ hy
   rw [e,h0];rfl
  ·exfalso
   have:=DU q.x h0
   rw [e,this] at ho
   have hl:=q.x.isLt
   have:=zz
   omega
theorem zQ (y:Nat):cK (sxN y)=(cK y*cK y - 1)*kO (1+DK*(cK y*cK y)):=by
 unfold sxN
 rw [fe,qo,fe,tQ,uv,fe,fe,lO]
 rfl
theorem gQ {s:Nat} : sqe s=0↔rt s*rt s % pp=s % pp:=by
 unfold sqe
 split
 ·rename_i h;exact ⟨fun _=>h,fun _=>rfl⟩
 ·rename_i h;exact ⟨fun e=>absurd e (by decide),fun e=>absurd e h⟩
theorem my (n:Nat):bD n=true↔n % TT<pp∧sqe (sxN (n % TT))=0 ∧ ¬ (TT≤n∧dK n=0):=by
 unfold bD gS
 simp only [Bool.and_eq_true,decide_eq_true_eq,Bool.not_eq_true',Bool.and_eq_false_iff,decide_eq_false_iff_not]
 constructor
 ·rintro ⟨h1,h2,h3⟩
  exact ⟨h1,h2,fun ⟨a,b⟩=>by rcases h3 with h | h;exact h a;exact h b⟩
 ·rintro ⟨h1,h2,h3⟩
  refine ⟨h1,h2,?_⟩
  by_cases ht:TT≤n
  ·exact .inr fun e=>h3 ⟨ht,e⟩
  ·exact .inl ht
theorem tj {n:Nat} (hn:n<RN) (h:bD n=true) : ∃ p:PT,enc p=n∧Rep (cP (rdP n)) p:=by
 obtain ⟨h1,h2,h3⟩:=(my n).1 h
 have hs:=gQ.1 h2
 have hr:dK n=ev (rt (sxN (n % TT))):=by
  unfold dK sqv;rw [if_pos hs]
 have lt:=vW (sxN (n % TT))
 have hr1:dK n<pp:=by rw [hr];exact KE _ lt
 have hr2:dK n % 2=0:=by rw [hr];exact D9 _ lt
 have hr3:dK n*dK n % pp=sxN (n % TT) % pp:=by rw [hr,FB _ lt,hs]
 have hK:cK (dK n)*cK (dK n)=(cK (n % TT)*cK (n % TT) - 1)*kO (1+DK*(cK (n % TT)*cK (n % TT))):=by
  rw [←zQ,←ep,hr3,mv]
 have on0:=tN FK hK
 have onx:On DK (cK (rdX n)) (cK (n % TT)):=by
  unfold rdX
  split
  ·rw [qo,qN];exact Gt on0
  ·exact on0
 refine ⟨⟨cK (rdX n),cK (n % TT),onx⟩,?_,?_⟩
 ·unfold enc
  simp only
  have hxl:rdX n<pp:=by
   unfold rdX
   split
   ·exact qw _ _
   ·exact hr1
  rw [dJ,dJ,Nat.mod_eq_of_lt h1,Nat.mod_eq_of_lt hxl]
  have h4:RN=TT+TT:=by decide
  by_cases ht:TT≤n
  ·have hz : ¬ dK n=0:=fun e=>h3 ⟨ht,e⟩
   have e1:rdX n=pp - dK n:=by
    unfold rdX gS
    rw [decide_eq_true ht,if_pos rfl]
    unfold fsb
    rw [Nat.zero_add,Nat.mod_eq_of_lt hr1,Nat.mod_eq_of_lt (by omega)]
   have:=zz
   have e2:rdX n % 2=1:=by rw [e1];omega
   rw [e2,Nat.one_mul]
   have:n % TT=n - TT:=by rw [Nat.mod_eq_sub_mod ht,Nat.mod_eq_of_lt (by omega)]
   omega
  ·have e1:rdX n=dK n:=by
    unfold rdX gS
    rw [decide_eq_false ht,if_neg Bool.false_ne_true]
   rw [e1,hr2,Nat.zero_mul,Nat.add_zero]
   exact Nat.mod_eq_of_lt (by omega)
 ·unfold rdP
  rw [h,if_pos rfl,wa]
  exact uG FK (⟨cK (rdX n),cK (n % TT),onx⟩:PT)
theorem jX (p:PT):bD (enc p)=true:=by
 have hy:=m8 p
 have ky:cK (enc p % TT)=p.y:=by rw [hy];exact sS _
 have ks:cK (sxN (enc p % TT))=p.x*p.x:=by rw [zQ,ky];exact AJ FK p.on
 have hs:sxN (enc p % TT)=p.x.val*p.x.val % pp:=by
  have:=mz (eF _ _) ks
  rw [Fin.val_mul] at this
  exact this
 have hr:=Ev p.x.val _ hs
 rw [my]
 refine ⟨by rw [hy];exact p.y.isLt,gQ.2 hr,?_⟩
 rintro ⟨ht,hz⟩
 have hodd:p.x.val % 2=1:=by
  rw [←iZ]
  have h4:RN=TT*2:=by decide
  have hl:=vv p
  have h1:enc p/TT<2:=by rw [Nat.div_lt_iff_lt_mul (by decide)];omega
  have h2:1≤enc p/TT:=by rw [Nat.le_div_iff_mul_le (by decide)];omega
  omega
 have hz':ev (rt (sxN (enc p % TT)))=0:=by
  unfold dK sqv at hz
  rw [if_pos hr] at hz
  exact hz
 have e:=FB _ (vW (sxN (enc p % TT)))
 rw [hz',hr,Nat.mul_zero,Nat.zero_mod] at e
 have k0:p.x*p.x=0:=by rw [←ks];exact gu.2 e.symm
 have:p.x=0:=by
  rcases FK.nz _ _ k0 with h | h <;> exact h
 rw [this] at hodd
 exact absurd hodd (by decide)
theorem py (p:PT):Rep (cP (rdP (enc p))) p:=by
 obtain ⟨q,h1,h2⟩:=tj (vv p) (jX p)
 rw [←w8 h1];rw [w8 h1] at h2 ⊢;exact h2
def BP:PT:=⟨cK GX,cK GY,by unfold On DK;decide +kernel⟩
theorem CW:Rep (cP rV) BP:=by
 unfold rV
 rw [wa]
 exact uG FK BP
theorem IK:enc BP=GY:=by decide +kernel
theorem vI (n:Nat) (hn:n<RN) (p:PT):qm n (enc p)=enc (eA n p):=by
 unfold qm
 rw [jX,if_pos rfl]
 exact mK (fS (py p) n hn)
theorem qQ (n:Nat) (hn:n<RN):rX n=enc (eA n BP):=mK (fS CW n hn)
theorem CM (p:PT):lL (enc p)=enc (eA 8 p):=by
 unfold lL
 rw [jX,if_pos rfl]
 refine mK ?_
 rw [iU,iU,iU]
 show Rep _ (Pt.smul FK 8 p)
 rw [Pt.dbl8]
 exact gE FK (gE FK (gE FK (py p)))
theorem EI (p:PT):rdE (enc p)=0:=dN (jX p)
end Go.Proofs.YtajehiidpecknaaGreatDoor
namespace Go.Proofs.YtajehiidpecknaaGreatDoor
open Go Go.RowKit
def jQ:List Value→Nat
 | []=>0
 | .int _ x :: l=>x.toNat+18446744073709551616*jQ l
 | _ :: l=>18446744073709551616*jQ l
def aW:Value→Nat
 | .agg cs=>jQ cs.toList
 | _=>0
theorem gx {n:Nat} (h:n<RN):jQ (nl n)=n:=by
 have e:jQ (nl n)=(lw n 0).toNat+18446744073709551616*((lw n 1).toNat+18446744073709551616*((lw n 2).toNat+18446744073709551616*((lw n 3).toNat+18446744073709551616*0))):=rfl
 rw [e]
 unfold lw
 simp only [Int.toNat_natCast]
 have e2:n/18446744073709551616 ^ 2=n/18446744073709551616/18446744073709551616:=by rw [Nat.div_div_eq_div_mul]
 have e3:n/18446744073709551616 ^ 3=n/18446744073709551616/18446744073709551616/18446744073709551616:=by rw [Nat.div_div_eq_div_mul,Nat.div_div_eq_div_mul]
 rw [e2,e3,Nat.pow_zero,Nat.div_one,Nat.pow_one]
 simp only [RN] at h
 omega
theorem a7 {n:Nat} (h:n<RN):aW (nv n)=n:=gx h
def IsW (A:Value):Prop:=A=nv (aW A)∧aW A<RN
theorem ic {n:Nat} (h:n<RN):IsW (nv n):=by unfold IsW;rw [a7 h];exact ⟨rfl,h⟩
theorem fT (n:Nat):flat (nv n)=true:=rfl
def rfa (a b:Nat):Nat:=fX (a+b)
def rfs (a b:Nat):Nat:=fX (a+(pp - b % pp))
def rfm (a b:Nat):Nat:=fX (eO (a*b))
def rfi (a:Nat):Nat:=pX a (pp - 2) 256
theorem oG {T:Nat} (h:T/RN<18446744073709551616):fX T<RN:=by
 unfold fX
 have:=Nat.mod_lt T (show 0<RN by decide)
 simp only [RN] at *
 split <;> omega
theorem qS {T:Nat} (h:T/RN<18446744073709551616):fX T % pp=T % pp:=by
 have e:=Nat.div_add_mod T RN
 unfold fX
 have:=Nat.mod_lt T (show 0<RN by decide)
 generalize T/RN=q at *
 generalize T % RN=r at *
 subst e
 simp only [RN,pp] at *
 split <;> omega
theorem fE {a b:Nat} (ha:a<RN) (hb:b<RN):eO (a*b)/RN<18446744073709551616:=by
 have h1:a*b/RN<RN:=by
  rw [Nat.div_lt_iff_lt_mul (by decide)]
  exact Nat.mul_lt_mul'' ha hb
 unfold eO
 have:=Nat.mod_lt (a*b) (show 0<RN by decide)
 generalize a*b/RN=q at *
 generalize a*b % RN=r at *
 simp only [RN] at *
 omega
theorem xR (n:Nat):eO n % pp=n % pp:=by
 have e:=Nat.div_add_mod n RN
 unfold eO
 generalize n/RN=q at *
 generalize n % RN=r at *
 subst e
 simp only [RN,pp] at *
 omega
theorem wN {a b:Nat} (ha:a<RN) (hb:b<RN):(a+b)/RN<18446744073709551616:=by simp only [RN] at *;omega
theorem ri {a:Nat} (b:Nat) (ha:a<RN):(a+(pp - b % pp))/RN<18446744073709551616:=by simp only [RN,pp] at *;omega
theorem bn {a b:Nat} (ha:a<RN) (hb:b<RN):rfa a b<RN:=oG (wN ha hb)
theorem bO {a:Nat} (b:Nat) (ha:a<RN):rfs a b<RN:=oG (ri b ha)
theorem bH {a b:Nat} (ha:a<RN) (hb:b<RN):rfm a b<RN:=oG (fE ha hb)
theorem Cu {a:Nat} (b:Nat) (ha:a<RN) : ∀ j,pX a b j<RN
 | 0=>by show (1:Nat)<RN;decide
 | j+1=>by
  have ih:=Cu b ha j
  unfold pX
  split
  ·exact oG (fE (oG (fE ih ih)) ha)
  ·exact oG (fE ih ih)
theorem pq {a:Nat} (ha:a<RN):rfi a<RN:=Cu _ ha 256
theorem kP {a b:Nat} (ha:a<RN) (hb:b<RN):rfm a b % pp=a*b % pp:=by
 unfold rfm;rw [qS (fE ha hb),xR]
theorem zc {a b:Nat} (ha:a<RN) (hb:b<2 ^ 256) : ∀ j,j≤256→pX a b j % pp=a ^ (b/2 ^ (256 - j)) % pp
 | 0,_=>by rw [Nat.sub_zero,Nat.div_eq_of_lt hb,Nat.pow_zero];rfl
 | j+1,hj=>by
  have ih:=zc ha hb j (by omega)
  have hl:=Cu b ha j
  have e1:256 - j=(255 - j)+1:=by omega
  have e2:256 - (j+1)=255 - j:=by omega
  rw [e1] at ih
  rw [e2]
  unfold pX
  split
  ·rename_i h
   exact w9 a b (255 - j) _ _ _ ih (kP hl hl) (kP (bH hl hl) ha) h
  ·rename_i h
   exact nu a b (255 - j) _ _ ih (kP hl hl) (by omega)
theorem iS {a b:Nat} (ha:a<RN) (hb:b<RN):cK (rfa a b)=cK a+cK b:=by
 rw [←Ck];exact fR.2 (by rw [Nat.mod_mod];exact qS (wN ha hb))
theorem mI {a:Nat} (b:Nat) (ha:a<RN):cK (rfs a b)=cK a - cK b:=by
 rw [←zK];exact fR.2 (by rw [Nat.mod_mod];exact qS (ri b ha))
theorem cO {a b:Nat} (ha:a<RN) (hb:b<RN):cK (rfm a b)=cK a*cK b:=by
 rw [←ep];exact fR.2 (by rw [Nat.mod_mod];exact kP ha hb)
theorem uF {a:Nat} (ha:a<RN):cK (rfi a)=kO (cK a):=by
 rw [vL]
 refine fR.2 ?_
 rw [Nat.mod_mod]
 have:=zc (b:=pp - 2) ha (by decide) 256 (Nat.le_refl _)
 rw [Nat.sub_self,Nat.pow_zero,Nat.div_one] at this
 exact this
def WA (A B:Value):Value:=nv (rfa (aW A) (aW B))
def WS (A B:Value):Value:=nv (rfs (aW A) (aW B))
def WM (A B:Value):Value:=nv (rfm (aW A) (aW B))
def WI (A:Value):Value:=nv (rfi (aW A))
def WL (A:Value):Value:=nv (aW A % pp)
def gWpl:List Value→Option (List Prop × Value)
 | [A,B]=>some ([IsW A∧IsW B],WA A B)
 | _=>none
theorem CL {X:Cx} (hX:X.Ok Tryz.prog):(X.pure 89 gWpl).Ok Tryz.prog:=by
 refine aD hX Tryz.func89 (by kernel_rfl) (by kernel_rfl) ?_
 intro args ps v ha hg hp
 unfold gWpl at hg
 split at hg
 ·rename_i A B
  simp only [qG,qH] at hg
  obtain ⟨rfl,rfl⟩:=hg
  obtain ⟨hA,hB⟩:=hp _ (List.mem_singleton.2 rfl)
  refine ⟨.inl (fT _),fun w => ?_⟩
  have h:Calls Tryz.prog 89 #[nv (aW A),nv (aW B)] w fun e w'=>e = .returned (WA A B)∧Below w.heap.size w w':=(mM (aW A) (aW B) hA.2 hB.2 w).mono fun e w' ⟨z,h1,h2,h3,h4⟩=>⟨by rw [h2,h3.2];rfl,h4⟩
  rw [←hA.1,←hB.1] at h
  exact h
 ·simp at hg
def Ih:List Value→Option (List Prop × Value)
 | [A,B]=>some ([IsW A∧IsW B],WS A B)
 | _=>none
theorem Dc {X:Cx} (hX:X.Ok Tryz.prog):(X.pure 86 Ih).Ok Tryz.prog:=by
 refine aD hX Tryz.func86 (by kernel_rfl) (by kernel_rfl) ?_
 intro args ps v ha hg hp
 unfold Ih at hg
 split at hg
 ·rename_i A B
  simp only [qG,qH] at hg
  obtain ⟨rfl,rfl⟩:=hg
  obtain ⟨hA,hB⟩:=hp _ (List.mem_singleton.2 rfl)
  refine ⟨.inl (fT _),fun w => ?_⟩
  have h:Calls Tryz.prog 86 #[nv (aW A),nv (aW B)] w fun e w'=>e = .returned (WS A B)∧Below w.heap.size w w':=(rS (aW A) (aW B) hA.2 hB.2 w).mono fun e w' ⟨z,h1,h2,h3,h4⟩=>⟨by rw [h2,h3.2];rfl,h4⟩
  rw [←hA.1,←hB.1] at h
  exact h
 ·simp at hg
def Gg:List Value→Option (List Prop × Value)
 | [A,B]=>some ([IsW A∧IsW B],WM A B)
 | _=>none
theorem C9 {X:Cx} (hX:X.Ok Tryz.prog):(X.pure 84 Gg).Ok Tryz.prog:=by
 refine aD hX Tryz.func84 (by kernel_rfl) (by kernel_rfl) ?_
 intro args ps v ha hg hp
 unfold Gg at hg
 split at hg
 ·rename_i A B
  simp only [qG,qH] at hg
  obtain ⟨rfl,rfl⟩:=hg
  obtain ⟨hA,hB⟩:=hp _ (List.mem_singleton.2 rfl)
  refine ⟨.inl (fT _),fun w => ?_⟩
  have h:Calls Tryz.prog 84 #[nv (aW A),nv (aW B)] w fun e w'=>e = .returned (WM A B)∧Below w.heap.size w w':=(gK (aW A) (aW B) hA.2 hB.2 w).mono fun e w' ⟨z,h1,h2,h3,h4⟩=>⟨by rw [h2,h3.2];rfl,h4⟩
  rw [←hA.1,←hB.1] at h
  exact h
 ·simp at hg
def gWin:List Value→Option (List Prop × Value)
 | [A]=>some ([IsW A],WI A)
 | _=>none
theorem En {X:Cx} (hX:X.Ok Tryz.prog):(X.pure 88 gWin).Ok Tryz.prog:=by
 refine aD hX Tryz.func88 (by kernel_rfl) (by kernel_rfl) ?_
 intro args ps v ha hg hp
 unfold gWin at hg
 split at hg
 ·rename_i A
  simp only [qG,qH] at hg
  obtain ⟨rfl,rfl⟩:=hg
  have hA:=hp _ (List.mem_singleton.2 rfl)
  refine ⟨.inl (fT _),fun w => ?_⟩
  have h:Calls Tryz.prog 88 #[nv (aW A)] w fun e w'=>e = .returned (WI A)∧Below w.heap.size w w':=(nt (aW A) hA.2 w).mono fun e w' ⟨z,h1,h2,h3,h4⟩=>⟨by rw [h2,h3.2];rfl,h4⟩
  rw [←hA.1] at h
  exact h
 ·simp at hg
def Gd:List Value→Option (List Prop × Value)
 | [A]=>some ([IsW A],WL A)
 | _=>none
theorem EB {X:Cx} (hX:X.Ok Tryz.prog):(X.pure 91 Gd).Ok Tryz.prog:=by
 refine aD hX Tryz.func91 (by kernel_rfl) (by kernel_rfl) ?_
 intro args ps v ha hg hp
 unfold Gd at hg
 split at hg
 ·rename_i A
  simp only [qG,qH] at hg
  obtain ⟨rfl,rfl⟩:=hg
  have hA:=hp _ (List.mem_singleton.2 rfl)
  refine ⟨.inl (fT _),fun w => ?_⟩
  have h:Calls Tryz.prog 91 #[nv (aW A)] w fun e w'=>e = .returned (WL A)∧Below w.heap.size w w':=de (aW A) hA.2 w
  rw [←hA.1] at h
  exact h
 ·simp at hg
def HU:List Value→Option (List Prop × Value)
 | [A]=>some ([IsW A],bv (aW A % pp))
 | _=>none
theorem Ed {X:Cx} (hX:X.Ok Tryz.prog):(X.pure 92 HU).Ok Tryz.prog:=by
 refine aD hX Tryz.func92 (by kernel_rfl) (by kernel_rfl) ?_
 intro args ps v ha hg hp
 unfold HU at hg
 split at hg
 ·rename_i A
  simp only [qG,qH] at hg
  obtain ⟨rfl,rfl⟩:=hg
  have hA:=hp _ (List.mem_singleton.2 rfl)
  refine ⟨.inl (aE _),fun w => ?_⟩
  have h:Calls Tryz.prog 92 #[nv (aW A)] w fun e w'=>e = .returned (bv (aW A % pp))∧Below w.heap.size w w':=uP (aW A) hA.2 w
  rw [←hA.1] at h
  exact h
 ·simp at hg
def GA:List Value→Option (List Prop × Value)
 | [A]=>some ([IsB A],nv (aj A))
 | _=>none
theorem Fi {X:Cx} (hX:X.Ok Tryz.prog):(X.pure 83 GA).Ok Tryz.prog:=by
 refine aD hX Tryz.func83 (by kernel_rfl) (by kernel_rfl) ?_
 intro args ps v ha hg hp
 unfold GA at hg
 split at hg
 ·rename_i A
  simp only [qG,qH] at hg
  obtain ⟨rfl,rfl⟩:=hg
  have hA:=hp _ (List.mem_singleton.2 rfl)
  refine ⟨.inl (fT _),fun w => ?_⟩
  have h:Calls Tryz.prog 83 #[bv (aj A)] w fun e w'=>e = .returned (nv (aj A))∧Below w.heap.size w w':=oP (aj A) (aS hA) w
  rw [← (show A=bv (aj A) from hA)] at h
  exact h
 ·simp at hg
def H9:List Value→Option (List Prop × Value)
 | [A]=>some ([IsB A],.bool (decide (aj A<pp)))
 | _=>none
theorem Dg {X:Cx} (hX:X.Ok Tryz.prog):(X.pure 82 H9).Ok Tryz.prog:=by
 refine aD hX Tryz.func82 (by kernel_rfl) (by kernel_rfl) ?_
 intro args ps v ha hg hp
 unfold H9 at hg
 split at hg
 ·rename_i A
  simp only [qG,qH] at hg
  obtain ⟨rfl,rfl⟩:=hg
  have hA:=hp _ (List.mem_singleton.2 rfl)
  refine ⟨.inl rfl,fun w => ?_⟩
  have h:Calls Tryz.prog 82 #[bv (aj A)] w fun e w'=>e = .returned (.bool (decide (aj A<pp)))∧Below w.heap.size w w':=lQ (aj A) (aS hA) w
  rw [← (show A=bv (aj A) from hA)] at h
  exact h
 ·simp at hg
theorem yt (n:Nat) (b:Bool):flat (.tuple #[nv n,.bool b])=true:=rfl
def Hc:List Value→Option (List Prop × Value)
 | [A]=>some ([IsW A],.tuple #[nv (rt (aW A)),.bool (decide (rt (aW A)*rt (aW A) % pp=aW A % pp))])
 | _=>none
theorem CF {X:Cx} (hX:X.Ok Tryz.prog):(X.pure 85 Hc).Ok Tryz.prog:=by
 refine aD hX Tryz.func85 (by kernel_rfl) (by kernel_rfl) ?_
 intro args ps v ha hg hp
 unfold Hc at hg
 split at hg
 ·rename_i A
  simp only [qG,qH] at hg
  obtain ⟨rfl,rfl⟩:=hg
  have hA:=hp _ (List.mem_singleton.2 rfl)
  refine ⟨.inl (yt _ _),fun w => ?_⟩
  have h:Calls Tryz.prog 85 #[nv (aW A)] w fun e w'=>e = .returned (.tuple #[nv (rt (aW A)),.bool (decide (rt (aW A)*rt (aW A) % pp=aW A % pp))])∧Below w.heap.size w w':=yc (aW A) hA.2 w
  rw [←hA.1] at h
  exact h
 ·simp at hg
theorem I4:sfun Tryz.prog Cx.none 60 Tryz.f90 (ai Tryz.f90) []=some ([],nv DN'):=by kernel_rfl
def gWd:List Value→Option (List Prop × Value)
 | []=>some ([],nv DN')
 | _=>none
theorem IG {X:Cx} (hX:X.Ok Tryz.prog):(X.pure 90 gWd).Ok Tryz.prog:=by
 refine aD hX Tryz.func90 (by kernel_rfl) (by kernel_rfl) ?_
 intro args ps v ha hg hp
 unfold gWd at hg
 split at hg
 ·simp only [qG,qH] at hg
  obtain ⟨rfl,rfl⟩:=hg
  exact ⟨.inl rfl,aA Cx.none_ok mixed Tryz.func90 (by kernel_rfl) I4 (by simp) rfl (.inl rfl)⟩
 ·simp at hg
def gWsm:List Value→Option (List Prop × Value)
 | [.int .u64 x]=>some ([],.agg #[.int .u64 x,.int .u64 0,.int .u64 0,.int .u64 0])
 | _=>none
theorem DM {X:Cx} (hX:X.Ok Tryz.prog):(X.pure 87 gWsm).Ok Tryz.prog:=by
 refine aD hX Tryz.func87 (by kernel_rfl) (by kernel_rfl) ?_
 intro args ps v ha hg hp
 unfold gWsm at hg
 split at hg
 ·rename_i x
  simp only [qG,qH] at hg
  obtain ⟨rfl,rfl⟩:=hg
  exact ⟨.inl rfl,fun w=>mg x w⟩
 ·simp at hg
def H0:Cx:=((((((((((Cx.none.pure 89 gWpl).pure 86 Ih).pure 84 Gg).pure 88 gWin).pure 91 Gd).pure 92 HU).pure 83 GA).pure 82 H9).pure 85 Hc).pure 90 gWd).pure 87 gWsm
theorem sn:H0.Ok Tryz.prog:=DM (IG (CF (Dg (Fi (Ed (EB (En (C9 (Dc (CL Cx.none_ok))))))))))
end Go.Proofs.YtajehiidpecknaaGreatDoor
