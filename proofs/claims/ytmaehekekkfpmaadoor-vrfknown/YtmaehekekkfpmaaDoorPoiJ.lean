/- What package point's calls answer, in the curve's group. -/
import Derived.Test.YtmaehekekkfpmaaDoorFieT
import Derived.Test.YtmaehekekkfpmaaDoorPoiO
import Derived.Test.YtmaehekekkfpmaaDoorPoiH
import Derived.Test.YtmaehekekkfpmaaDoorFieRB
set_option linter.unusedSimpArgs false
set_option linter.unusedVariables false
namespace Go.Proofs.YtmaehekekkfpmaaDoor
open Go
def cP (p:P4):E4 KK:=⟨cK p.x,cK p.y,cK p.z,cK p.t⟩
theorem cK_fad (a b:Nat):cK (fad a b)=cK a+cK b:=cK_add a b
theorem cK_fsb (a b:Nat):cK (fsb a b)=cK a - cK b:=cK_sub a b
theorem cK_fml (a b:Nat):cK (fml a b)=cK a*cK b:=cK_mul a b
theorem cK_fiv (a:Nat):cK (fiv a)=invK (cK a):=(invK_cK a).symm
theorem cP_quo (x xu y yu:Nat):cP (quoN x xu y yu)=quoE (cK x) (cK xu) (cK y) (cK yu):=by
 unfold cP quoN quoE
 simp only [cK_fml]
theorem cP_sum (a b:P4):cP (sumN a b)=sumE DK (cP a) (cP b):=by
 unfold sumN
 simp only [cP_quo]
 unfold sumE cP
 simp only [cK_fml,cK_fad,cK_fsb]
 rfl
theorem cP_dbl (a:P4):cP (dblN a)=dblE (cP a):=by
 unfold dblN
 simp only [cP_quo]
 unfold dblE cP
 simp only [cK_fml,cK_fad,cK_fsb]
theorem cP_neu:cP neuN=neuE:=by
 unfold neuN neuE cP
 simp only [cK_zero,cK_one]
theorem cP_at (x y:Nat):cP (atN x y)=atE (cK x) (cK y):=by
 unfold atN atE cP
 simp only [cK_fml,cK_one]
abbrev PT:Type:=Pt DK
abbrev padd (p q:PT):PT:=p.add FK q
abbrev pmul (n:Nat) (p:PT):PT:=p.smul FK n
theorem rep_six {a:P4} {p:PT} (h:Rep (cP a) p):Rep (cP (sixN a)) (pmul 16 p):=by
 unfold sixN
 rw [cP_dbl,cP_dbl,cP_dbl,cP_dbl]
 show Rep _ (Pt.smul FK 16 p)
 rw [Pt.dbl16]
 exact rep_dbl FK (rep_dbl FK (rep_dbl FK (rep_dbl FK h)))
theorem rep_mu {a:P4} {p:PT} (h:Rep (cP a) p) : ∀ i,Rep (cP (muN a i)) (pmul i p)
 | 0=>by
  show Rep (cP neuN) (Pt.zero DK)
  rw [cP_neu];exact rep_neu FK
 | i+1=>by
  show Rep (cP (sumN (muN a i) a)) ((pmul i p).add FK p)
  rw [cP_sum];exact rep_sum FK (rep_mu h i) h
theorem rep_step {t q:P4} {p:PT} {m d:Nat} (ht:Rep (cP t) (pmul m p)) (hq:Rep (cP q) (pmul d p)):Rep (cP (stepN t q)) (pmul (16*m+d) p):=by
 unfold stepN
 rw [cP_sum]
 have:=rep_sum FK (rep_six ht) hq
 show Rep _ (Pt.smul FK (16*m+d) p)
 rw [Pt.smul_add,Pt.smul_mul]
 exact this
theorem rep_tm {a:P4} {p:PT} (h:Rep (cP a) p) (n:Nat) (hn:n<RN) : ∀ j,j≤32→Rep (cP (tmR a n j)) (pmul (n/256 ^ (32 - j)) p)
 | 0,_=>by
  have:n/256 ^ (32 - 0)=0:=Nat.div_eq_of_lt (by rw [Nat.sub_zero];exact Nat.lt_of_lt_of_le hn (by decide))
  rw [this]
  exact rep_mu h 0
 | j+1,hj=>by
  have ih:=rep_tm h n hn j (by omega)
  have e:n/256 ^ (32 - (j+1))=16*(16*(n/256 ^ (32 - j))+n/256 ^ (31 - j) % 256/16)+n/256 ^ (31 - j) % 256 % 16:=by
   have e1:32 - j=(31 - j)+1:=by omega
   have e2:32 - (j+1)=31 - j:=by omega
   rw [e1,e2,Nat.pow_succ,←Nat.div_div_eq_div_mul]
   generalize n/256 ^ (31 - j)=z
   omega
  rw [e]
  exact rep_step (rep_step ih (rep_mu h _)) (rep_mu h _)
theorem rep_times {a:P4} {p:PT} (h:Rep (cP a) p) (n:Nat) (hn:n<RN):Rep (cP (timesN n a)) (pmul n p):=by
 have:=rep_tm h n hn 32 (Nat.le_refl _)
 rw [Nat.sub_self,Nat.pow_zero,Nat.div_one] at this
 exact this
def enc (p:PT):Nat:=p.y.val+p.x.val % 2*TT
theorem val_of {a:Nat} {k:KK} (h:a<pp) (e:cK a=k):a=k.val:=by
 rw [←e,cK_val,Nat.mod_eq_of_lt h]
theorem wr_enc {a:P4} {p:PT} (h:Rep (cP a) p):wrN a=enc p:=by
 obtain ⟨h1,h2,h3,_⟩:=h
 have hz:cK a.z≠0:=h1
 have iv:=FK.inv _ hz
 have hx:cK a.x=p.x*cK a.z:=h2
 have hy:cK a.y=p.y*cK a.z:=h3
 have kx:cK (wx a)=p.x:=by
  unfold wx;rw [cK_fml,cK_fiv,hx]
  have:=kmul_assoc p.x (cK a.z) (invK (cK a.z))
  rw [this,iv,kmul_one]
 have ky:cK (wy a)=p.y:=by
  unfold wy;rw [cK_fml,cK_fiv,hy]
  have:=kmul_assoc p.y (cK a.z) (invK (cK a.z))
  rw [this,iv,kmul_one]
 unfold wrN enc
 rw [←val_of (fml_lt _ _) kx,←val_of (fml_lt _ _) ky]
 rfl
section
variable {d:KK} {inv:KK→KK}
theorem den_y (F:Fld d inv) (y:KK):1+d*(y*y)≠0:=fun h=>by
 obtain ⟨i,hi⟩:=F.root
 have h0:=F.nsq i y (by grind)
 apply F.one
 grind
theorem sq_of_on {x y:KK} (h:On d x y):x*x*(1+d*(y*y))=y*y - 1:=by
 unfold On at h;grind
theorem on_of_sq {x y:KK} (h:x*x*(1+d*(y*y))=y*y - 1):On d x y:=by
 unfold On;grind
theorem on_neg {x y:KK} (h:On d x y):On d (0 - x) y:=by unfold On at *;grind
theorem sx_eq (F:Fld d inv) {x y:KK} (h:On d x y):(y*y - 1)*inv (1+d*(y*y))=x*x:=by
 have h1:=sq_of_on h
 have h2:=F.inv _ (den_y F y)
 generalize inv (1+d*(y*y))=z at *
 rw [←h1]
 grind
theorem on_of_root (F:Fld d inv) {x y:KK} (h:x*x=(y*y - 1)*inv (1+d*(y*y))):On d x y:=by
 have h2:=F.inv _ (den_y F y)
 generalize inv (1+d*(y*y))=z at *
 apply on_of_sq
 rw [h]
 grind
theorem two_sq (F:Fld d inv) {x z:KK} (h:x*x=z*z):x=z∨x=0 - z:=by
 have:(x - z)*(x+z)=0:=by grind
 rcases F.nz _ _ this with h | h
 ·left;grind
 ·right;grind
end
theorem y_of_enc (p:PT):enc p % TT=p.y.val:=by
 unfold enc
 rw [Nat.add_mul_mod_self_right]
 exact Nat.mod_eq_of_lt (Nat.lt_trans p.y.isLt pp_lt_TT)
theorem odd_of_enc (p:PT):enc p/TT=p.x.val % 2:=by
 unfold enc
 rw [Nat.add_mul_div_right _ _ (by decide),Nat.div_eq_of_lt (Nat.lt_trans p.y.isLt pp_lt_TT),Nat.zero_add]
theorem enc_lt (p:PT):enc p<RN:=by
 unfold enc
 have h1:p.y.val<TT:=Nat.lt_trans p.y.isLt pp_lt_TT
 have h3:RN=TT+TT:=by decide
 rcases (by omega:p.x.val % 2=0∨p.x.val % 2=1) with h | h <;> rw [h] <;> omega
theorem neg_val (k:KK) (h:k≠0):(0 - k).val=pp - k.val:=by
 have hk:k.val≠0:=fun e=>h (Fin.ext e)
 rw [Fin.sub_def]
 show (pp - k.val+0) % pp=_
 rw [Nat.add_zero]
 have:=k.isLt
 exact Nat.mod_eq_of_lt (by omega)
theorem pp_odd:pp % 2=1:=by decide
theorem enc_inj {p q:PT} (h:enc p=enc q):p=q:=by
 have hy:p.y=q.y:=Fin.ext (by rw [←y_of_enc,←y_of_enc,h])
 have ho:p.x.val % 2=q.x.val % 2:=by rw [←odd_of_enc,←odd_of_enc,h]
 have h1:=sx_eq FK p.on
 have h2:=sx_eq FK q.on
 rw [hy,h2] at h1
 rcases two_sq FK h1.symm with e | e
 ·exact Pt.ext' e hy
 ·by_cases h0:q.x=0
  ·refine Pt.ext' ?_ hy
   rw [e,h0];rfl
  ·exfalso
   have:=neg_val q.x h0
   rw [e,this] at ho
   have hl:=q.x.isLt
   have:=pp_odd
   omega
theorem cK_sx (y:Nat):cK (sxN y)=(cK y*cK y - 1)*invK (1+DK*(cK y*cK y)):=by
 unfold sxN
 rw [cK_fml,cK_fsb,cK_fml,cK_fiv,cK_fad,cK_fml,cK_fml,cK_one]
 rfl
theorem sqe_zero {s:Nat} : sqe s=0↔rt s*rt s % pp=s % pp:=by
 unfold sqe
 split
 ·rename_i h;exact ⟨fun _=>h,fun _=>rfl⟩
 ·rename_i h;exact ⟨fun e=>absurd e (by decide),fun e=>absurd e h⟩
theorem rdOk_iff (n:Nat):rdOk n=true↔n % TT<pp∧sqe (sxN (n % TT))=0 ∧ ¬ (TT≤n∧rdRt n=0):=by
 unfold rdOk rdOdd
 simp only [Bool.and_eq_true,decide_eq_true_eq,Bool.not_eq_true',Bool.and_eq_false_iff,decide_eq_false_iff_not]
 constructor
 ·rintro ⟨h1,h2,h3⟩
  exact ⟨h1,h2,fun ⟨a,b⟩=>by rcases h3 with h | h;exact h a;exact h b⟩
 ·rintro ⟨h1,h2,h3⟩
  refine ⟨h1,h2,?_⟩
  by_cases ht:TT≤n
  ·exact .inr fun e=>h3 ⟨ht,e⟩
  ·exact .inl ht
theorem rd_point {n:Nat} (hn:n<RN) (h:rdOk n=true) : ∃ p:PT,enc p=n∧Rep (cP (rdP n)) p:=by
 obtain ⟨h1,h2,h3⟩:=(rdOk_iff n).1 h
 have hs:=sqe_zero.1 h2
 have hr:rdRt n=ev (rt (sxN (n % TT))):=by
  unfold rdRt sqv;rw [if_pos hs]
 have lt:=rt_lt (sxN (n % TT))
 have hr1:rdRt n<pp:=by rw [hr];exact ev_lt _ lt
 have hr2:rdRt n % 2=0:=by rw [hr];exact ev_even _ lt
 have hr3:rdRt n*rdRt n % pp=sxN (n % TT) % pp:=by rw [hr,ev_sq _ lt,hs]
 have hK:cK (rdRt n)*cK (rdRt n)=(cK (n % TT)*cK (n % TT) - 1)*invK (1+DK*(cK (n % TT)*cK (n % TT))):=by
  rw [←cK_sx,←cK_mul,hr3,cK_mod]
 have on0:=on_of_root FK hK
 have onx:On DK (cK (rdX n)) (cK (n % TT)):=by
  unfold rdX
  split
  ·rw [cK_fsb,cK_zero];exact on_neg on0
  ·exact on0
 refine ⟨⟨cK (rdX n),cK (n % TT),onx⟩,?_,?_⟩
 ·unfold enc
  simp only
  have hxl:rdX n<pp:=by
   unfold rdX
   split
   ·exact fsb_lt _ _
   ·exact hr1
  rw [cK_val,cK_val,Nat.mod_eq_of_lt h1,Nat.mod_eq_of_lt hxl]
  have h4:RN=TT+TT:=by decide
  by_cases ht:TT≤n
  ·have hz : ¬ rdRt n=0:=fun e=>h3 ⟨ht,e⟩
   have e1:rdX n=pp - rdRt n:=by
    unfold rdX rdOdd
    rw [decide_eq_true ht,if_pos rfl]
    unfold fsb
    rw [Nat.zero_add,Nat.mod_eq_of_lt hr1,Nat.mod_eq_of_lt (by omega)]
   have:=pp_odd
   have e2:rdX n % 2=1:=by rw [e1];omega
   rw [e2,Nat.one_mul]
   have:n % TT=n - TT:=by rw [Nat.mod_eq_sub_mod ht,Nat.mod_eq_of_lt (by omega)]
   omega
  ·have e1:rdX n=rdRt n:=by
    unfold rdX rdOdd
    rw [decide_eq_false ht,if_neg Bool.false_ne_true]
   rw [e1,hr2,Nat.zero_mul,Nat.add_zero]
   exact Nat.mod_eq_of_lt (by omega)
 ·unfold rdP
  rw [h,if_pos rfl,cP_at]
  exact rep_at FK (⟨cK (rdX n),cK (n % TT),onx⟩:PT)
theorem rd_enc (p:PT):rdOk (enc p)=true:=by
 have hy:=y_of_enc p
 have ky:cK (enc p % TT)=p.y:=by rw [hy];exact cK_of _
 have ks:cK (sxN (enc p % TT))=p.x*p.x:=by rw [cK_sx,ky];exact sx_eq FK p.on
 have hs:sxN (enc p % TT)=p.x.val*p.x.val % pp:=by
  have:=val_of (fml_lt _ _) ks
  rw [Fin.val_mul] at this
  exact this
 have hr:=root_sq p.x.val _ hs
 rw [rdOk_iff]
 refine ⟨by rw [hy];exact p.y.isLt,sqe_zero.2 hr,?_⟩
 rintro ⟨ht,hz⟩
 have hodd:p.x.val % 2=1:=by
  rw [←odd_of_enc]
  have h4:RN=TT*2:=by decide
  have hl:=enc_lt p
  have h1:enc p/TT<2:=by rw [Nat.div_lt_iff_lt_mul (by decide)];omega
  have h2:1≤enc p/TT:=by rw [Nat.le_div_iff_mul_le (by decide)];omega
  omega
 have hz':ev (rt (sxN (enc p % TT)))=0:=by
  unfold rdRt sqv at hz
  rw [if_pos hr] at hz
  exact hz
 have e:=ev_sq _ (rt_lt (sxN (enc p % TT)))
 rw [hz',hr,Nat.mul_zero,Nat.zero_mod] at e
 have k0:p.x*p.x=0:=by rw [←ks];exact cK_eq_zero.2 e.symm
 have:p.x=0:=by
  rcases FK.nz _ _ k0 with h | h <;> exact h
 rw [this] at hodd
 exact absurd hodd (by decide)
theorem rd_rep (p:PT):Rep (cP (rdP (enc p))) p:=by
 obtain ⟨q,h1,h2⟩:=rd_point (enc_lt p) (rd_enc p)
 rw [←enc_inj h1];rw [enc_inj h1] at h2 ⊢;exact h2
def BP:PT:=⟨cK GX,cK GY,by unfold On DK;decide +kernel⟩
theorem rep_gen:Rep (cP genN) BP:=by
 unfold genN
 rw [cP_at]
 exact rep_at FK BP
theorem mul_enc (n:Nat) (hn:n<RN) (p:PT):pmlN n (enc p)=enc (pmul n p):=by
 unfold pmlN
 rw [rd_enc,if_pos rfl]
 exact wr_enc (rep_times (rd_rep p) n hn)
theorem bas_enc (n:Nat) (hn:n<RN):basN n=enc (pmul n BP):=wr_enc (rep_times rep_gen n hn)
theorem clr_enc (p:PT):clrN (enc p)=enc (pmul 8 p):=by
 unfold clrN
 rw [rd_enc,if_pos rfl]
 refine wr_enc ?_
 rw [cP_dbl,cP_dbl,cP_dbl]
 show Rep _ (Pt.smul FK 8 p)
 rw [Pt.dbl8]
 exact rep_dbl FK (rep_dbl FK (rep_dbl FK (rd_rep p)))
theorem rdE_enc (p:PT):rdE (enc p)=0:=rdE_ok (rd_enc p)
end Go.Proofs.YtmaehekekkfpmaaDoor
/- The field's reference as contracts of the small memory: just what each call answers. -/
namespace Go.Proofs.YtmaehekekkfpmaaDoor
open Go Go.RowKit
def wsum:List Value→Nat
 | []=>0
 | .int _ x :: l=>x.toNat+18446744073709551616*wsum l
 | _ :: l=>18446744073709551616*wsum l
def rfa (a b:Nat):Nat:=fX (a+b)
def rfs (a b:Nat):Nat:=fX (a+(pp - b % pp))
def rfm (a b:Nat):Nat:=fX (tFold (a*b))
def rfi (a:Nat):Nat:=pX a (pp - 2) 256
end Go.Proofs.YtmaehekekkfpmaaDoor
/- The curve's reference: Neutral, Sum, Minus, Encode as contracts. -/
namespace Go.Proofs.YtmaehekekkfpmaaDoor
open Go Go.RowKit
def q16 (p:P4):List Value:=nl p.x ++ (nl p.y ++ (nl p.z ++ nl p.t))
def qv (p:P4):Value := .agg (q16 p).toArray
def q4:Value→P4
 | .agg cs=>⟨wsum (cs.toList.take 4),wsum ((cs.toList.drop 4).take 4),wsum ((cs.toList.drop 8).take 4),wsum ((cs.toList.drop 12).take 4)⟩
 | _=>⟨0,0,0,0⟩
def raN (p q:P4):Nat:=rfm (rfs p.y p.x) (rfs q.y q.x)
def rbN (p q:P4):Nat:=rfm (rfa p.y p.x) (rfa q.y q.x)
def rcN (p q:P4):Nat:=rfm (rfm p.t q.t) (rfa DN' DN')
def rdN (p q:P4):Nat:=rfm (rfa p.z p.z) q.z
def rsumN (p q:P4):P4 :=
 ⟨rfm (rfs (rbN p q) (raN p q)) (rfs (rdN p q) (rcN p q)),rfm (rfa (rdN p q) (rcN p q)) (rfa (rbN p q) (raN p q)),rfm (rfs (rdN p q) (rcN p q)) (rfa (rdN p q) (rcN p q)),rfm (rfs (rbN p q) (raN p q)) (rfa (rbN p q) (raN p q))⟩
def rmirN (p:P4):P4:=⟨rfs 0 p.x,p.y,p.z,rfs 0 p.t⟩
def exN (p:P4):Nat:=rfm p.x (rfi p.z) % pp
def eyN (p:P4):Nat:=rfm p.y (rfi p.z) % pp
def wqN (p:P4):Nat:=eyN p+exN p % 2*TT
end Go.Proofs.YtmaehekekkfpmaaDoor
/- The curve's reference: Often as a contract. -/
namespace Go.Proofs.YtmaehekekkfpmaaDoor
open Go Go.RowKit
def o2 (S:P4→P4→P4) (out:P4):P4:=S (q4 (qv out)) (q4 (qv out))
def oR (p:P4) (n:Nat):Nat→P4
 | 0=>neuN
 | j+1=>if n/2 ^ (255 - j) % 2=1 then rsumN (rsumN (oR p n j) (oR p n j)) p else rsumN (oR p n j) (oR p n j)
def oftN (n:Nat) (p:P4):P4:=oR p n 256
end Go.Proofs.YtmaehekekkfpmaaDoor
/- The curve's reference: Decode as a contract. -/
namespace Go.Proofs.YtmaehekekkfpmaaDoor
open Go Go.RowKit
def dqP (n:Nat):P4:=if rdOk n then ⟨rdX n,n % TT,1,rfm (rdX n) (n % TT)⟩ else noP
end Go.Proofs.YtmaehekekkfpmaaDoor
/- The curve's reference: what it exports, as contracts: it answers just as package point does. -/
namespace Go.Proofs.YtmaehekekkfpmaaDoor
open Go Go.RowKit
structure Lt where
 D:Nat→P4
 K:Nat→Bool
 S:P4→P4→P4
 M:P4→P4
 O:Nat→P4→P4
 E:P4→Nat
def L0:Lt:=⟨dqP,rdOk,rsumN,rmirN,oftN,wqN⟩
end Go.Proofs.YtmaehekekkfpmaaDoor
