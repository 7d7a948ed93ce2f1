/- What package point's calls answer, in the curve's group. -/
import Derived.Test.YtkhjnjlinfbfoaaGreatDoorFieT
import Derived.Test.YtkhjnjlinfbfoaaGreatDoorPoiM
import Derived.Test.YtkhjnjlinfbfoaaGreatDoorPoiG
import Derived.Test.YtkhjnjlinfbfoaaGreatDoorFieRL
set_option linter.unusedSimpArgs false
set_option linter.unusedVariables false
namespace Go.Proofs.YtkhjnjlinfbfoaaGreatDoor
open Go
def cP (p:P4):E4 KK:=⟨cK p.x,cK p.y,cK p.z,cK p.t⟩
theorem cK_fad (a b:Nat):cK (fad a b)=cK a+cK b:=cK_add a b
theorem cK_fsb (a b:Nat):cK (fsb a b)=cK a - cK b:=cK_sub a b
theorem cK_fml (a b:Nat):cK (fml a b)=cK a*cK b:=cK_mul a b
theorem cK_fiv (a:Nat):cK (fiv a)=invK (cK a):=(invK_cK a).symm
theorem cP_quo (x xu y yu:Nat):cP (quoN x xu y yu)=quoE (cK x) (cK xu) (cK y) (cK yu):=by
 unfold cP quoN quoE
 simp only [cK_fml]
theorem cP_sum (a b:P4):cP (sumN a b)=sumE DK (cP a) (cP b):=by
 unfold sumN
 simp only [cP_quo]
 unfold sumE cP
 simp only [cK_fml,cK_fad,cK_fsb]
 rfl
theorem cP_dbl (a:P4):cP (dblN a)=dblE (cP a):=by
 unfold dblN
 simp only [cP_quo]
 unfold dblE cP
 simp only [cK_fml,cK_fad,cK_fsb]
theorem cP_mir (a:P4):cP (mirN a)=mirE (cP a):=by
 unfold mirN mirE cP
 simp only [cK_fsb,cK_zero]
theorem cP_neu:cP neuN=neuE:=by
 unfold neuN neuE cP
 simp only [cK_zero,cK_one]
theorem cP_at (x y:Nat):cP (atN x y)=atE (cK x) (cK y):=by
 unfold atN atE cP
 simp only [cK_fml,cK_one]
abbrev PT:Type:=Pt DK
abbrev padd (p q:PT):PT:=p.add FK q
abbrev pmul (n:Nat) (p:PT):PT:=p.smul FK n
theorem rep_six {a:P4} {p:PT} (h:Rep (cP a) p):Rep (cP (sixN a)) (pmul 16 p):=by
 unfold sixN
 rw [cP_dbl,cP_dbl,cP_dbl,cP_dbl]
 show Rep _ (Pt.smul FK 16 p)
 rw [Pt.dbl16]
 exact rep_dbl FK (rep_dbl FK (rep_dbl FK (rep_dbl FK h)))
theorem rep_mu {a:P4} {p:PT} (h:Rep (cP a) p) : ∀ i,Rep (cP (muN a i)) (pmul i p)
 | 0=>by
  show Rep (cP neuN) (Pt.zero DK)
  rw [cP_neu];exact rep_neu FK
 | i+1=>by
  show Rep (cP (sumN (muN a i) a)) ((pmul i p).add FK p)
  rw [cP_sum];exact rep_sum FK (rep_mu h i) h
theorem rep_step {t q:P4} {p:PT} {m d:Nat} (ht:Rep (cP t) (pmul m p)) (hq:Rep (cP q) (pmul d p)):Rep (cP (stepN t q)) (pmul (16*m+d) p):=by
 unfold stepN
 rw [cP_sum]
 have:=rep_sum FK (rep_six ht) hq
 show Rep _ (Pt.smul FK (16*m+d) p)
 rw [Pt.smul_add,Pt.smul_mul]
 exact this
theorem rep_tm {a:P4} {p:PT} (h:Rep (cP a) p) (n:Nat) (hn:n<RN) : ∀ j,j≤32→Rep (cP (tmR a n j)) (pmul (n/256 ^ (32 - j)) p)
 | 0,_=>by
  have:n/256 ^ (32 - 0)=0:=Nat.div_eq_of_lt (by rw [Nat.sub_zero];exact Nat.lt_of_lt_of_le hn (by decide))
  rw [this]
  exact rep_mu h 0
 | j+1,hj=>by
  have ih:=rep_tm h n hn j (by omega)
  have e:n/256 ^ (32 - (j+1))=16*(16*(n/256 ^ (32 - j))+n/256 ^ (31 - j) % 256/16)+n/256 ^ (31 - j) % 256 % 16:=by
   have e1:32 - j=(31 - j)+1:=by omega
   have e2:32 - (j+1)=31 - j:=by omega
   rw [e1,e2,Nat.pow_succ,←Nat.div_div_eq_div_mul]
   generalize n/256 ^ (31 - j)=z
   omega
  rw [e]
  exact rep_step (rep_step ih (rep_mu h _)) (rep_mu h _)
theorem rep_times {a:P4} {p:PT} (h:Rep (cP a) p) (n:Nat) (hn:n<RN):Rep (cP (timesN n a)) (pmul n p):=by
 have:=rep_tm h n hn 32 (Nat.le_refl _)
 rw [Nat.sub_self,Nat.pow_zero,Nat.div_one] at this
 exact this
def enc (p:PT):Nat:=p.y.val+p.x.val % 2*TT
theorem val_of {a:Nat} {k:KK} (h:a<pp) (e:cK a=k):a=k.val:=by
 rw [←e,cK_val,Nat.mod_eq_of_lt h]
theorem wr_enc {a:P4} {p:PT} (h:Rep (cP a) p):wrN a=enc p:=by
 obtain ⟨h1,h2,h3,_⟩:=h
 have hz:cK a.z≠0:=h1
 have iv:=FK.inv _ hz
 have hx:cK a.x=p.x*cK a.z:=h2
 have hy:cK a.y=p.y*cK a.z:=h3
 have kx:cK (wx a)=p.x:=by
  unfold wx;rw [cK_fml,cK_fiv,hx]
  have:=kmul_assoc p.x (cK a.z) (invK (cK a.z))
  rw [this,iv,kmul_one]
 have ky:cK (wy a)=p.y:=by
  unfold wy;rw [cK_fml,cK_fiv,hy]
  have:=kmul_assoc p.y (cK a.z) (invK (cK a.z))
  rw [this,iv,kmul_one]
 unfold wrN enc
 rw [←val_of (fml_lt _ _) kx,←val_of (fml_lt _ _) ky]
 rfl
section
variable {d:KK} {inv:KK→KK}
theorem den_y (F:Fld d inv) (y:KK):1+d*(y*y)≠0:=fun h=>by
 obtain ⟨i,hi⟩:=F.root
 have h0:=F.nsq i y (by grind)
 apply F.one
 grind
theorem sq_of_on {x y:KK} (h:On d x y):x*x*(1+d*(y*y))=y*y - 1:=by
 unfold On at h;grind
theorem on_of_sq {x y:KK} (h:x*x*(1+d*(y*y))=y*y - 1):On d x y:=by
 unfold On;grind
theorem on_neg {x y:KK} (h:On d x y):On d (0 - x) y:=by unfold On at *;grind
theorem sx_eq (F:Fld d inv) {x y:KK} (h:On d x y):(y*y - 1)*inv (1+d*(y*y))=x*x:=by
 have h1:=sq_of_on h
 have h2:=F.inv _ (den_y F y)
 generalize inv (1+d*(y*y))=z at *
 rw [←h1]
 grind
theorem on_of_root (F:Fld d inv) {x y:KK} (h:x*x=(y*y - 1)*inv (1+d*(y*y))):On d x y:=by
 have h2:=F.inv _ (den_y F y)
 generalize inv (1+d*(y*y))=z at *
 apply on_of_sq
 rw [h]
 grind
theorem two_sq (F:Fld d inv) {x z:KK} (h:x*x=z*z):x=z∨x=0 - z:=by
 have:(x - z)*(x+z)=0:=by grind
 rcases F.nz _ _ this with h | h
 ·left;grind
 ·right;grind
end
theorem y_of_enc (p:PT):enc p % TT=p.y.val:=by
 unfold enc
 rw [Nat.add_mul_mod_self_right]
 exact Nat.mod_eq_of_lt (Nat.lt_trans p.y.isLt pp_lt_TT)
theorem odd_of_enc (p:PT):enc p/TT=p.x.val % 2:=by
 unfold enc
 rw [Nat.add_mul_div_right _ _ (by decide),Nat.div_eq_of_lt (Nat.lt_trans p.y.isLt pp_lt_TT),Nat.zero_add]
theorem enc_lt (p:PT):enc p<RN:=by
 unfold enc
 have h1:p.y.val<TT:=Nat.lt_trans p.y.isLt pp_lt_TT
 have h3:RN=TT+TT:=by decide
 rcases (by omega:p.x.val % 2=0∨p.x.val % 2=1) with h | h <;> rw [h] <;> omega
theorem neg_val (k:KK) (h:k≠0):(0 - k).val=pp - k.val:=by
 have hk:k.val≠0:=fun e=>h (Fin.ext e)
 rw [Fin.sub_def]
 show (pp - k.val+0) % pp=_
 rw [Nat.add_zero]
 have:=k.isLt
 exact Nat.mod_eq_of_lt (by omega)
theorem pp_odd:pp % 2=1:=by decide
theorem enc_inj {p q:PT} (h:enc p=enc q):p=q:=by
 have hy:p.y=q.y:=Fin.ext (by rw [←y_of_enc,←y_of_enc,h])
 have ho:p.x.val % 2=q.x.val % 2:=by rw [←odd_of_enc,←odd_of_enc,h]
 have h1:=sx_eq FK p.on
 have h2:=sx_eq FK q.on
 rw [hy,h2] at h1
 rcases two_sq FK h1.symm with e | e
 ·exact Pt.ext' e hy
 ·by_cases h0:q.x=0
  ·refine Pt.ext' ?_ hy
   rw [e,h0];rfl
  ·exfalso
   have:=neg_val q.x h0
   rw [e,this] at ho
   have hl:=q.x.isLt
   have:=pp_odd
   omega
theorem cK_sx (y:Nat):cK (sxN y)=(cK y*cK y - 1)*invK (1+DK*(cK y*cK y)):=by
 unfold sxN
 rw [cK_fml,cK_fsb,cK_fml,cK_fiv,cK_fad,cK_fml,cK_fml,cK_one]
 rfl
theorem sqe_zero {s:Nat} : sqe s=0↔rt s*rt s % pp=s % pp:=by
 unfold sqe
 split
 ·rename_i h;exact ⟨fun _=>h,fun _=>rfl⟩
 ·rename_i h;exact ⟨fun e=>absurd e (by decide),fun e=>absurd e h⟩
theorem rdOk_iff (n:Nat):rdOk n=true↔n % TT<pp∧sqe (sxN (n % TT))=0 ∧ ¬ (TT≤n∧rdRt n=0):=by
 unfold rdOk rdOdd
 simp only [Bool.and_eq_true,decide_eq_true_eq,Bool.not_eq_true',Bool.and_eq_false_iff,decide_eq_false_iff_not]
 constructor
 ·rintro ⟨h1,h2,h3⟩
  exact ⟨h1,h2,fun ⟨a,b⟩=>by rcases h3 with h | h;exact h a;exact h b⟩
 ·rintro ⟨h1,h2,h3⟩
  refine ⟨h1,h2,?_⟩
  by_cases ht:TT≤n
  ·exact .inr fun e=>h3 ⟨ht,e⟩
  ·exact .inl ht
theorem rd_point {n:Nat} (hn:n<RN) (h:rdOk n=true) : ∃ p:PT,enc p=n∧Rep (cP (rdP n)) p:=by
 obtain ⟨h1,h2,h3⟩:=(rdOk_iff n).1 h
 have hs:=sqe_zero.1 h2
 have hr:rdRt n=ev (rt (sxN (n % TT))):=by
  unfold rdRt sqv;rw [if_pos hs]
 have lt:=rt_lt (sxN (n % TT))
 have hr1:rdRt n<pp:=by rw [hr];exact ev_lt _ lt
 have hr2:rdRt n % 2=0:=by rw [hr];exact ev_even _ lt
 have hr3:rdRt n*rdRt n % pp=sxN (n % TT) % pp:=by rw [hr,ev_sq _ lt,hs]
 have hK:cK (rdRt n)*cK (rdRt n)=(cK (n % TT)*cK (n % TT) - 1)*invK (1+DK*(cK (n % TT)*cK (n % TT))):=by
  rw [←cK_sx,←cK_mul,hr3,cK_mod]
 have on0:=on_of_root FK hK
 have onx:On DK (cK (rdX n)) (cK (n % TT)):=by
  unfold rdX
  split
  ·rw [cK_fsb,cK_zero];exact on_neg on0
  ·exact on0
 refine ⟨⟨cK (rdX n),cK (n % TT),onx⟩,?_,?_⟩
 ·unfold enc
  simp only
  have hxl:rdX n<pp:=by
   unfold rdX
   split
   ·exact fsb_lt _ _
   ·exact hr1
  rw [cK_val,cK_val,Nat.mod_eq_of_lt h1,Nat.mod_eq_of_lt hxl]
  have h4:RN=TT+TT:=by decide
  by_cases ht:TT≤n
  ·have hz : ¬ rdRt n=0:=fun e=>h3 ⟨ht,e⟩
   have e1:rdX n=pp - rdRt n:=by
    unfold rdX rdOdd
    rw [decide_eq_true ht,if_pos rfl]
    unfold fsb
    rw [Nat.zero_add,Nat.mod_eq_of_lt hr1,Nat.mod_eq_of_lt (by omega)]
   have:=pp_odd
   have e2:rdX n % 2=1:=by rw [e1];omega
   rw [e2,Nat.one_mul]
   have:n % TT=n - TT:=by rw [Nat.mod_eq_sub_mod ht,Nat.mod_eq_of_lt (by omega)]
   omega
  ·have e1:rdX n=rdRt n:=by
    unfold rdX rdOdd
    rw [decide_eq_false ht,if_neg Bool.false_ne_true]
   rw [e1,hr2,Nat.zero_mul,Nat.add_zero]
   exact Nat.mod_eq_of_lt (by omega)
 ·unfold rdP
  rw [h,if_pos rfl,cP_at]
  exact rep_at FK (⟨cK (rdX n),cK (n % TT),onx⟩:PT)
theorem rd_enc (p:PT):rdOk (enc p)=true:=by
 have hy:=y_of_enc p
 have ky:cK (enc p % TT)=p.y:=by rw [hy];exact cK_of _
 have ks:cK (sxN (enc p % TT))=p.x*p.x:=by rw [cK_sx,ky];exact sx_eq FK p.on
 have hs:sxN (enc p % TT)=p.x.val*p.x.val % pp:=by
  have:=val_of (fml_lt _ _) ks
  rw [Fin.val_mul] at this
  exact this
 have hr:=root_sq p.x.val _ hs
 rw [rdOk_iff]
 refine ⟨by rw [hy];exact p.y.isLt,sqe_zero.2 hr,?_⟩
 rintro ⟨ht,hz⟩
 have hodd:p.x.val % 2=1:=by
  rw [←odd_of_enc]
  have h4:RN=TT*2:=by decide
  have hl:=enc_lt p
  have h1:enc p/TT<2:=by rw [Nat.div_lt_iff_lt_mul (by decide)];omega
  have h2:1≤enc p/TT:=by rw [Nat.le_div_iff_mul_le (by decide)];omega
  omega
 have hz':ev (rt (sxN (enc p % TT)))=0:=by
  unfold rdRt sqv at hz
  rw [if_pos hr] at hz
  exact hz
 have e:=ev_sq _ (rt_lt (sxN (enc p % TT)))
 rw [hz',hr,Nat.mul_zero,Nat.zero_mod] at e
 have k0:p.x*p.x=0:=by rw [←ks];exact cK_eq_zero.2 e.symm
 have:p.x=0:=by
  rcases FK.nz _ _ k0 with h | h <;> exact h
 rw [this] at hodd
 exact absurd hodd (by decide)
theorem rd_rep (p:PT):Rep (cP (rdP (enc p))) p:=by
 obtain ⟨q,h1,h2⟩:=rd_point (enc_lt p) (rd_enc p)
 rw [←enc_inj h1];rw [enc_inj h1] at h2 ⊢;exact h2
def BP:PT:=⟨cK GX,cK GY,by unfold On DK;decide +kernel⟩
theorem rep_gen:Rep (cP genN) BP:=by
 unfold genN
 rw [cP_at]
 exact rep_at FK BP
theorem enc_BP:enc BP=GY:=by decide +kernel
theorem add_enc (p q:PT):addN (enc p) (enc q)=enc (padd p q)∧addE (enc p) (enc q)=0:=by
 unfold addN addE
 rw [rd_enc,rd_enc,Bool.true_and,if_pos rfl,if_pos rfl]
 refine ⟨wr_enc ?_,rfl⟩
 rw [cP_sum]
 exact rep_sum FK (rd_rep p) (rd_rep q)
theorem neg_enc (p:PT):negN (enc p)=enc p.neg:=by
 unfold negN
 rw [rd_enc,if_pos rfl]
 refine wr_enc ?_
 rw [cP_mir]
 exact rep_mir (rd_rep p)
theorem mul_enc (n:Nat) (hn:n<RN) (p:PT):pmlN n (enc p)=enc (pmul n p):=by
 unfold pmlN
 rw [rd_enc,if_pos rfl]
 exact wr_enc (rep_times (rd_rep p) n hn)
theorem bas_enc (n:Nat) (hn:n<RN):basN n=enc (pmul n BP):=wr_enc (rep_times rep_gen n hn)
theorem clr_enc (p:PT):clrN (enc p)=enc (pmul 8 p):=by
 unfold clrN
 rw [rd_enc,if_pos rfl]
 refine wr_enc ?_
 rw [cP_dbl,cP_dbl,cP_dbl]
 show Rep _ (Pt.smul FK 8 p)
 rw [Pt.dbl8]
 exact rep_dbl FK (rep_dbl FK (rep_dbl FK (rd_rep p)))
end Go.Proofs.YtkhjnjlinfbfoaaGreatDoor
/- The field's reference as contracts of the small memory: just what each call answers. -/
namespace Go.Proofs.YtkhjnjlinfbfoaaGreatDoor
open Go Go.RowKit
def wsum:List Value→Nat
 | []=>0
 | .int _ x :: l=>x.toNat+18446744073709551616*wsum l
 | _ :: l=>18446744073709551616*wsum l
def wnum:Value→Nat
 | .agg cs=>wsum cs.toList
 | _=>0
theorem wsum_nl {n:Nat} (h:n<RN):wsum (nl n)=n:=by
 have e:wsum (nl n)=(lw n 0).toNat+18446744073709551616*((lw n 1).toNat+18446744073709551616*((lw n 2).toNat+18446744073709551616*((lw n 3).toNat+18446744073709551616*0))):=rfl
 rw [e]
 unfold lw
 simp only [Int.toNat_natCast]
 have e2:n/18446744073709551616 ^ 2=n/18446744073709551616/18446744073709551616:=by rw [Nat.div_div_eq_div_mul]
 have e3:n/18446744073709551616 ^ 3=n/18446744073709551616/18446744073709551616/18446744073709551616:=by rw [Nat.div_div_eq_div_mul,Nat.div_div_eq_div_mul]
 rw [e2,e3,Nat.pow_zero,Nat.div_one,Nat.pow_one]
 simp only [RN] at h
 omega
theorem wnum_nv {n:Nat} (h:n<RN):wnum (nv n)=n:=wsum_nl h
def IsW (A:Value):Prop:=A=nv (wnum A)∧wnum A<RN
theorem isW_nv {n:Nat} (h:n<RN):IsW (nv n):=by unfold IsW;rw [wnum_nv h];exact ⟨rfl,h⟩
theorem flat_nv' (n:Nat):flat (nv n)=true:=rfl
def rfa (a b:Nat):Nat:=fX (a+b)
def rfs (a b:Nat):Nat:=fX (a+(pp - b % pp))
def rfm (a b:Nat):Nat:=fX (tFold (a*b))
def rfi (a:Nat):Nat:=pX a (pp - 2) 256
theorem fX_lt {T:Nat} (h:T/RN<18446744073709551616):fX T<RN:=by
 unfold fX
 have:=Nat.mod_lt T (show 0<RN by decide)
 simp only [RN] at *
 split <;> omega
theorem fX_mod {T:Nat} (h:T/RN<18446744073709551616):fX T % pp=T % pp:=by
 have e:=Nat.div_add_mod T RN
 unfold fX
 have:=Nat.mod_lt T (show 0<RN by decide)
 generalize T/RN=q at *
 generalize T % RN=r at *
 subst e
 simp only [RN,pp] at *
 split <;> omega
theorem tFold_div {a b:Nat} (ha:a<RN) (hb:b<RN):tFold (a*b)/RN<18446744073709551616:=by
 have h1:a*b/RN<RN:=by
  rw [Nat.div_lt_iff_lt_mul (by decide)]
  exact Nat.mul_lt_mul'' ha hb
 unfold tFold
 have:=Nat.mod_lt (a*b) (show 0<RN by decide)
 generalize a*b/RN=q at *
 generalize a*b % RN=r at *
 simp only [RN] at *
 omega
theorem tFold_mod (n:Nat):tFold n % pp=n % pp:=by
 have e:=Nat.div_add_mod n RN
 unfold tFold
 generalize n/RN=q at *
 generalize n % RN=r at *
 subst e
 simp only [RN,pp] at *
 omega
theorem rfa_div {a b:Nat} (ha:a<RN) (hb:b<RN):(a+b)/RN<18446744073709551616:=by simp only [RN] at *;omega
theorem rfs_div {a:Nat} (b:Nat) (ha:a<RN):(a+(pp - b % pp))/RN<18446744073709551616:=by simp only [RN,pp] at *;omega
theorem rfa_lt {a b:Nat} (ha:a<RN) (hb:b<RN):rfa a b<RN:=fX_lt (rfa_div ha hb)
theorem rfs_lt {a:Nat} (b:Nat) (ha:a<RN):rfs a b<RN:=fX_lt (rfs_div b ha)
theorem rfm_lt {a b:Nat} (ha:a<RN) (hb:b<RN):rfm a b<RN:=fX_lt (tFold_div ha hb)
theorem pX_lt {a:Nat} (b:Nat) (ha:a<RN) : ∀ j,pX a b j<RN
 | 0=>by show (1:Nat)<RN;decide
 | j+1=>by
  have ih:=pX_lt b ha j
  unfold pX
  split
  ·exact fX_lt (tFold_div (fX_lt (tFold_div ih ih)) ha)
  ·exact fX_lt (tFold_div ih ih)
theorem rfi_lt {a:Nat} (ha:a<RN):rfi a<RN:=pX_lt _ ha 256
theorem rfm_mod {a b:Nat} (ha:a<RN) (hb:b<RN):rfm a b % pp=a*b % pp:=by
 unfold rfm;rw [fX_mod (tFold_div ha hb),tFold_mod]
theorem pX_mod {a b:Nat} (ha:a<RN) (hb:b<2 ^ 256) : ∀ j,j≤256→pX a b j % pp=a ^ (b/2 ^ (256 - j)) % pp
 | 0,_=>by rw [Nat.sub_zero,Nat.div_eq_of_lt hb,Nat.pow_zero];rfl
 | j+1,hj=>by
  have ih:=pX_mod ha hb j (by omega)
  have hl:=pX_lt b ha j
  have e1:256 - j=(255 - j)+1:=by omega
  have e2:256 - (j+1)=255 - j:=by omega
  rw [e1] at ih
  rw [e2]
  unfold pX
  split
  ·rename_i h
   exact pow_bit a b (255 - j) _ _ _ ih (rfm_mod hl hl) (rfm_mod (rfm_lt hl hl) ha) h
  ·rename_i h
   exact pow_nobit a b (255 - j) _ _ ih (rfm_mod hl hl) (by omega)
theorem cK_rfa {a b:Nat} (ha:a<RN) (hb:b<RN):cK (rfa a b)=cK a+cK b:=by
 rw [←cK_add];exact cK_eq.2 (by rw [Nat.mod_mod];exact fX_mod (rfa_div ha hb))
theorem cK_rfs {a:Nat} (b:Nat) (ha:a<RN):cK (rfs a b)=cK a - cK b:=by
 rw [←cK_sub];exact cK_eq.2 (by rw [Nat.mod_mod];exact fX_mod (rfs_div b ha))
theorem cK_rfm {a b:Nat} (ha:a<RN) (hb:b<RN):cK (rfm a b)=cK a*cK b:=by
 rw [←cK_mul];exact cK_eq.2 (by rw [Nat.mod_mod];exact rfm_mod ha hb)
theorem cK_rfi {a:Nat} (ha:a<RN):cK (rfi a)=invK (cK a):=by
 rw [invK_cK]
 refine cK_eq.2 ?_
 rw [Nat.mod_mod]
 have:=pX_mod (b:=pp - 2) ha (by decide) 256 (Nat.le_refl _)
 rw [Nat.sub_self,Nat.pow_zero,Nat.div_one] at this
 exact this
def WA (A B:Value):Value:=nv (rfa (wnum A) (wnum B))
def WS (A B:Value):Value:=nv (rfs (wnum A) (wnum B))
def WM (A B:Value):Value:=nv (rfm (wnum A) (wnum B))
def WI (A:Value):Value:=nv (rfi (wnum A))
def WL (A:Value):Value:=nv (wnum A % pp)
def gWpl:List Value→Option (List Prop × Value)
 | [A,B]=>some ([IsW A∧IsW B],WA A B)
 | _=>none
theorem gWpl_ok {X:Cx} (hX:X.Ok Tryz.prog):(X.pure 52 gWpl).Ok Tryz.prog:=by
 refine gBody_ok hX Tryz.func52 (by kernel_rfl) (by kernel_rfl) ?_
 intro args ps v ha hg hp
 unfold gWpl at hg
 split at hg
 ·rename_i A B
  simp only [qG,qH] at hg
  obtain ⟨rfl,rfl⟩:=hg
  obtain ⟨hA,hB⟩:=hp _ (List.mem_singleton.2 rfl)
  refine ⟨.inl (flat_nv' _),fun w => ?_⟩
  have h:Calls Tryz.prog 52 #[nv (wnum A),nv (wnum B)] w fun e w'=>e = .returned (WA A B)∧Below w.heap.size w w':=(rplusX_nat (wnum A) (wnum B) hA.2 hB.2 w).mono fun e w' ⟨z,h1,h2,h3,h4⟩=>⟨by rw [h2,h3.2];rfl,h4⟩
  rw [←hA.1,←hB.1] at h
  exact h
 ·simp at hg
def gWmi:List Value→Option (List Prop × Value)
 | [A,B]=>some ([IsW A∧IsW B],WS A B)
 | _=>none
theorem gWmi_ok {X:Cx} (hX:X.Ok Tryz.prog):(X.pure 49 gWmi).Ok Tryz.prog:=by
 refine gBody_ok hX Tryz.func49 (by kernel_rfl) (by kernel_rfl) ?_
 intro args ps v ha hg hp
 unfold gWmi at hg
 split at hg
 ·rename_i A B
  simp only [qG,qH] at hg
  obtain ⟨rfl,rfl⟩:=hg
  obtain ⟨hA,hB⟩:=hp _ (List.mem_singleton.2 rfl)
  refine ⟨.inl (flat_nv' _),fun w => ?_⟩
  have h:Calls Tryz.prog 49 #[nv (wnum A),nv (wnum B)] w fun e w'=>e = .returned (WS A B)∧Below w.heap.size w w':=(rminusX_nat (wnum A) (wnum B) hA.2 hB.2 w).mono fun e w' ⟨z,h1,h2,h3,h4⟩=>⟨by rw [h2,h3.2];rfl,h4⟩
  rw [←hA.1,←hB.1] at h
  exact h
 ·simp at hg
def gWti:List Value→Option (List Prop × Value)
 | [A,B]=>some ([IsW A∧IsW B],WM A B)
 | _=>none
theorem gWti_ok {X:Cx} (hX:X.Ok Tryz.prog):(X.pure 47 gWti).Ok Tryz.prog:=by
 refine gBody_ok hX Tryz.func47 (by kernel_rfl) (by kernel_rfl) ?_
 intro args ps v ha hg hp
 unfold gWti at hg
 split at hg
 ·rename_i A B
  simp only [qG,qH] at hg
  obtain ⟨rfl,rfl⟩:=hg
  obtain ⟨hA,hB⟩:=hp _ (List.mem_singleton.2 rfl)
  refine ⟨.inl (flat_nv' _),fun w => ?_⟩
  have h:Calls Tryz.prog 47 #[nv (wnum A),nv (wnum B)] w fun e w'=>e = .returned (WM A B)∧Below w.heap.size w w':=(rtimesX_nat (wnum A) (wnum B) hA.2 hB.2 w).mono fun e w' ⟨z,h1,h2,h3,h4⟩=>⟨by rw [h2,h3.2];rfl,h4⟩
  rw [←hA.1,←hB.1] at h
  exact h
 ·simp at hg
def gWin:List Value→Option (List Prop × Value)
 | [A]=>some ([IsW A],WI A)
 | _=>none
theorem gWin_ok {X:Cx} (hX:X.Ok Tryz.prog):(X.pure 51 gWin).Ok Tryz.prog:=by
 refine gBody_ok hX Tryz.func51 (by kernel_rfl) (by kernel_rfl) ?_
 intro args ps v ha hg hp
 unfold gWin at hg
 split at hg
 ·rename_i A
  simp only [qG,qH] at hg
  obtain ⟨rfl,rfl⟩:=hg
  have hA:=hp _ (List.mem_singleton.2 rfl)
  refine ⟨.inl (flat_nv' _),fun w => ?_⟩
  have h:Calls Tryz.prog 51 #[nv (wnum A)] w fun e w'=>e = .returned (WI A)∧Below w.heap.size w w':=(rinverseX_nat (wnum A) hA.2 w).mono fun e w' ⟨z,h1,h2,h3,h4⟩=>⟨by rw [h2,h3.2];rfl,h4⟩
  rw [←hA.1] at h
  exact h
 ·simp at hg
def gWle:List Value→Option (List Prop × Value)
 | [A]=>some ([IsW A],WL A)
 | _=>none
theorem gWle_ok {X:Cx} (hX:X.Ok Tryz.prog):(X.pure 54 gWle).Ok Tryz.prog:=by
 refine gBody_ok hX Tryz.func54 (by kernel_rfl) (by kernel_rfl) ?_
 intro args ps v ha hg hp
 unfold gWle at hg
 split at hg
 ·rename_i A
  simp only [qG,qH] at hg
  obtain ⟨rfl,rfl⟩:=hg
  have hA:=hp _ (List.mem_singleton.2 rfl)
  refine ⟨.inl (flat_nv' _),fun w => ?_⟩
  have h:Calls Tryz.prog 54 #[nv (wnum A)] w fun e w'=>e = .returned (WL A)∧Below w.heap.size w w':=least_nat (wnum A) hA.2 w
  rw [←hA.1] at h
  exact h
 ·simp at hg
def gWby:List Value→Option (List Prop × Value)
 | [A]=>some ([IsW A],bv (wnum A % pp))
 | _=>none
theorem gWby_ok {X:Cx} (hX:X.Ok Tryz.prog):(X.pure 58 gWby).Ok Tryz.prog:=by
 refine gBody_ok hX Tryz.func58 (by kernel_rfl) (by kernel_rfl) ?_
 intro args ps v ha hg hp
 unfold gWby at hg
 split at hg
 ·rename_i A
  simp only [qG,qH] at hg
  obtain ⟨rfl,rfl⟩:=hg
  have hA:=hp _ (List.mem_singleton.2 rfl)
  refine ⟨.inl (flat_bv _),fun w => ?_⟩
  have h:Calls Tryz.prog 58 #[nv (wnum A)] w fun e w'=>e = .returned (bv (wnum A % pp))∧Below w.heap.size w w':=rbytes_nat (wnum A) hA.2 w
  rw [←hA.1] at h
  exact h
 ·simp at hg
def gWfr:List Value→Option (List Prop × Value)
 | [A]=>some ([IsB A],nv (bnum A))
 | _=>none
theorem gWfr_ok {X:Cx} (hX:X.Ok Tryz.prog):(X.pure 46 gWfr).Ok Tryz.prog:=by
 refine gBody_ok hX Tryz.func46 (by kernel_rfl) (by kernel_rfl) ?_
 intro args ps v ha hg hp
 unfold gWfr at hg
 split at hg
 ·rename_i A
  simp only [qG,qH] at hg
  obtain ⟨rfl,rfl⟩:=hg
  have hA:=hp _ (List.mem_singleton.2 rfl)
  refine ⟨.inl (flat_nv' _),fun w => ?_⟩
  have h:Calls Tryz.prog 46 #[bv (bnum A)] w fun e w'=>e = .returned (nv (bnum A))∧Below w.heap.size w w':=rfrom_nat (bnum A) (bnum_lt hA) w
  rw [← (show A=bv (bnum A) from hA)] at h
  exact h
 ·simp at hg
def gWca:List Value→Option (List Prop × Value)
 | [A]=>some ([IsB A],.bool (decide (bnum A<pp)))
 | _=>none
theorem gWca_ok {X:Cx} (hX:X.Ok Tryz.prog):(X.pure 45 gWca).Ok Tryz.prog:=by
 refine gBody_ok hX Tryz.func45 (by kernel_rfl) (by kernel_rfl) ?_
 intro args ps v ha hg hp
 unfold gWca at hg
 split at hg
 ·rename_i A
  simp only [qG,qH] at hg
  obtain ⟨rfl,rfl⟩:=hg
  have hA:=hp _ (List.mem_singleton.2 rfl)
  refine ⟨.inl rfl,fun w => ?_⟩
  have h:Calls Tryz.prog 45 #[bv (bnum A)] w fun e w'=>e = .returned (.bool (decide (bnum A<pp)))∧Below w.heap.size w w':=rCanonical_any (bnum A) (bnum_lt hA) w
  rw [← (show A=bv (bnum A) from hA)] at h
  exact h
 ·simp at hg
theorem flat_tupW (n:Nat) (b:Bool):flat (.tuple #[nv n,.bool b])=true:=rfl
def gWro:List Value→Option (List Prop × Value)
 | [A]=>some ([IsW A],.tuple #[nv (rt (wnum A)),.bool (decide (rt (wnum A)*rt (wnum A) % pp=wnum A % pp))])
 | _=>none
theorem gWro_ok {X:Cx} (hX:X.Ok Tryz.prog):(X.pure 48 gWro).Ok Tryz.prog:=by
 refine gBody_ok hX Tryz.func48 (by kernel_rfl) (by kernel_rfl) ?_
 intro args ps v ha hg hp
 unfold gWro at hg
 split at hg
 ·rename_i A
  simp only [qG,qH] at hg
  obtain ⟨rfl,rfl⟩:=hg
  have hA:=hp _ (List.mem_singleton.2 rfl)
  refine ⟨.inl (flat_tupW _ _),fun w => ?_⟩
  have h:Calls Tryz.prog 48 #[nv (wnum A)] w fun e w'=>e = .returned (.tuple #[nv (rt (wnum A)),.bool (decide (rt (wnum A)*rt (wnum A) % pp=wnum A % pp))])∧Below w.heap.size w w':=rroot_nat (wnum A) hA.2 w
  rw [←hA.1] at h
  exact h
 ·simp at hg
theorem d_run:sfun Tryz.prog Cx.none 60 Tryz.f53 (bodyOf Tryz.f53) []=some ([],nv DN'):=by kernel_rfl
def gWd:List Value→Option (List Prop × Value)
 | []=>some ([],nv DN')
 | _=>none
theorem gWd_ok {X:Cx} (hX:X.Ok Tryz.prog):(X.pure 53 gWd).Ok Tryz.prog:=by
 refine gBody_ok hX Tryz.func53 (by kernel_rfl) (by kernel_rfl) ?_
 intro args ps v ha hg hp
 unfold gWd at hg
 split at hg
 ·simp only [qG,qH] at hg
  obtain ⟨rfl,rfl⟩:=hg
  exact ⟨.inl rfl,sfun_calls Cx.none_ok mixed Tryz.func53 (by kernel_rfl) d_run (by simp) rfl (.inl rfl)⟩
 ·simp at hg
def gWsm:List Value→Option (List Prop × Value)
 | [.int .u64 x]=>some ([],.agg #[.int .u64 x,.int .u64 0,.int .u64 0,.int .u64 0])
 | _=>none
theorem gWsm_ok {X:Cx} (hX:X.Ok Tryz.prog):(X.pure 50 gWsm).Ok Tryz.prog:=by
 refine gBody_ok hX Tryz.func50 (by kernel_rfl) (by kernel_rfl) ?_
 intro args ps v ha hg hp
 unfold gWsm at hg
 split at hg
 ·rename_i x
  simp only [qG,qH] at hg
  obtain ⟨rfl,rfl⟩:=hg
  exact ⟨.inl rfl,fun w=>rSmall_any x w⟩
 ·simp at hg
def H0:Cx:=((((((((((Cx.none.pure 52 gWpl).pure 49 gWmi).pure 47 gWti).pure 51 gWin).pure 54 gWle).pure 58 gWby).pure 46 gWfr).pure 45 gWca).pure 48 gWro).pure 53 gWd).pure 50 gWsm
theorem H0_ok:H0.Ok Tryz.prog:=gWsm_ok (gWd_ok (gWro_ok (gWca_ok (gWfr_ok (gWby_ok (gWle_ok (gWin_ok (gWti_ok (gWmi_ok (gWpl_ok Cx.none_ok))))))))))
end Go.Proofs.YtkhjnjlinfbfoaaGreatDoor
