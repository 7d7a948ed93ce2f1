/- Points over one divisor, and points taken many times. -/
import Derived.Test.YtmaehekekkfpmaaDoorPoiM
import Derived.Test.YtmaehekekkfpmaaDoorFieI
import Derived.Test.YtmaehekekkfpmaaDoorMemG
set_option linter.unusedSimpArgs false
set_option linter.unusedVariables false
namespace Go.Proofs.YtmaehekekkfpmaaDoor
variable {d:KK} {inv:KK→KK}
structure E4 (KK:Type) where
 x:KK
 y:KK
 z:KK
 t:KK
def Rep (P:E4 KK) (p:Pt d):Prop:=P.z≠0∧P.x=p.x*P.z∧P.y=p.y*P.z∧P.t=p.x*p.y*P.z
def quoE (x xu y yu:KK):E4 KK:=⟨x*yu,y*xu,xu*yu,x*y⟩
theorem rep_quo (F:Fld d inv) (p q:Pt d) {x xu y yu s:KK} (hs:s≠0) (hx:x=(p.x*q.y+q.x*p.y)*s) (hxu:xu=(1+d*p.x*q.x*p.y*q.y)*s) (hy:y=(p.y*q.y+p.x*q.x)*s) (hyu:yu=(1 - d*p.x*q.x*p.y*q.y)*s) :
  Rep (quoE x xu y yu) (p.add F q):=by
 have ax:=Pt.add_x F p q
 have ay:=Pt.add_y F p q
 have n1:=F.plus_ne p.on q.on
 have n2:=F.minus_ne p.on q.on
 rw [←ax] at hx
 rw [←ay] at hy
 generalize p.add F q=r at *
 clear ax ay
 generalize d*p.x*q.x*p.y*q.y=e at *
 subst hx hxu hy hyu
 refine ⟨F.mul_ne (F.mul_ne n1 hs) (F.mul_ne n2 hs),?_,?_,?_⟩ <;> simp only [quoE] <;> grind
def sumE (d:KK) (a b:E4 KK):E4 KK :=
 quoE ((a.y+a.x)*(b.y+b.x) - (a.y - a.x)*(b.y - b.x)) ((a.z*b.z+a.z*b.z)+(d*(a.t*b.t)+d*(a.t*b.t))) ((a.y+a.x)*(b.y+b.x)+(a.y - a.x)*(b.y - b.x)) ((a.z*b.z+a.z*b.z) - (d*(a.t*b.t)+d*(a.t*b.t)))
theorem rep_sum (F:Fld d inv) {a b:E4 KK} {p q:Pt d} (ha:Rep a p) (hb:Rep b q):Rep (sumE d a b) (p.add F q):=by
 obtain ⟨a1,a2,a3,a4⟩:=ha
 obtain ⟨b1,b2,b3,b4⟩:=hb
 refine rep_quo F p q (s:=2*(a.z*b.z)) (F.mul_ne F.two (F.mul_ne a1 b1)) ?_ ?_ ?_ ?_ <;> grind
def dblE (a:E4 KK):E4 KK :=
 quoE (a.x*a.y+a.x*a.y) (a.y*a.y - a.x*a.x) (a.y*a.y+a.x*a.x) ((a.z*a.z+a.z*a.z) - (a.y*a.y - a.x*a.x))
theorem rep_dbl (F:Fld d inv) {a:E4 KK} {p:Pt d} (ha:Rep a p):Rep (dblE a) (p.add F p):=by
 obtain ⟨a1,a2,a3,a4⟩:=ha
 have on:=p.on
 unfold On at on
 refine rep_quo F p p (s:=a.z*a.z) (F.mul_ne a1 a1) ?_ ?_ ?_ ?_ <;> grind
def neuE:E4 KK:=⟨0,1,1,0⟩
theorem rep_neu (F:Fld d inv):Rep (neuE:E4 KK) (Pt.zero d):=by
 refine ⟨F.one,?_,?_,?_⟩ <;> simp only [neuE,Pt.zero] <;> grind
def atE (x y:KK):E4 KK:=⟨x,y,1,x*y⟩
theorem rep_at (F:Fld d inv) (p:Pt d):Rep (atE p.x p.y) p:=by
 refine ⟨F.one,?_,?_,?_⟩ <;> simp only [atE] <;> grind
def Pt.smul (F:Fld d inv):Nat→Pt d→Pt d
 | 0,_=>Pt.zero d
 | n+1,p=>(Pt.smul F n p).add F p
theorem Pt.smul_one (F:Fld d inv) (p:Pt d):p.smul F 1=p:=Pt.zero_add F p
theorem Pt.smul_two (F:Fld d inv) (p:Pt d):p.smul F 2=p.add F p:=by
 show (p.smul F 1).add F p=_
 rw [Pt.smul_one]
theorem Pt.smul_add (F:Fld d inv) (p:Pt d) (m:Nat) : ∀ n,p.smul F (m+n)=(p.smul F m).add F (p.smul F n)
 | 0=>(Pt.add_zero F _).symm
 | n+1=>by
  show (p.smul F (m+n)).add F p=_
  rw [Pt.smul_add F p m n,Pt.add_assoc];rfl
theorem Pt.smul_mul (F:Fld d inv) (p:Pt d) (n:Nat) : ∀ m,p.smul F (m*n)=(p.smul F n).smul F m
 | 0=>by rw [Nat.zero_mul];rfl
 | m+1=>by
  rw [Nat.succ_mul,Pt.smul_add,Pt.smul_mul F p n m];rfl
theorem Pt.dbl16 (F:Fld d inv) (p:Pt d):p.smul F 16=(((p.add F p).add F (p.add F p)).add F ((p.add F p).add F (p.add F p))).add F (((p.add F p).add F (p.add F p)).add F ((p.add F p).add F (p.add F p))):=by
 have h:=Pt.smul_two F p
 have h4:p.smul F 4=(p.add F p).add F (p.add F p):=by rw [show (4:Nat)=2+2 from rfl,Pt.smul_add,h]
 have h8:p.smul F 8=((p.add F p).add F (p.add F p)).add F ((p.add F p).add F (p.add F p)):=by rw [show (8:Nat)=4+4 from rfl,Pt.smul_add,h4]
 rw [show (16:Nat)=8+8 from rfl,Pt.smul_add,h8]
theorem Pt.dbl8 (F:Fld d inv) (p:Pt d):p.smul F 8=((p.add F p).add F (p.add F p)).add F ((p.add F p).add F (p.add F p)):=by
 have h:=Pt.smul_two F p
 have h4:p.smul F 4=(p.add F p).add F (p.add F p):=by rw [show (4:Nat)=2+2 from rfl,Pt.smul_add,h]
 rw [show (8:Nat)=4+4 from rfl,Pt.smul_add,h4]
theorem Rep.unique (F:Fld d inv) {a:E4 KK} {p q:Pt d} (hp:Rep a p) (hq:Rep a q):p=q:=by
 obtain ⟨a1,a2,a3,a4⟩:=hp
 obtain ⟨b1,b2,b3,b4⟩:=hq
 exact Pt.ext' (F.cancel a1 (a2.symm.trans b2)) (F.cancel a1 (a3.symm.trans b3))
end Go.Proofs.YtmaehekekkfpmaaDoor
/- The numbers modulo p as a field in which -1 is a square and the curve's d is none. -/
namespace Go.Proofs.YtmaehekekkfpmaaDoor
def cK (n:Nat):KK:=Fin.ofNat pp n
theorem cK_val (n:Nat):(cK n).val=n % pp:=rfl
theorem cK_eq {a b:Nat} : cK a=cK b↔a % pp=b % pp:=by
 constructor
 ·intro h;have:=congrArg Fin.val h;exact this
 ·intro h;exact Fin.ext h
theorem cK_mod (a:Nat):cK (a % pp)=cK a:=cK_eq.2 (Nat.mod_mod _ _)
theorem cK_of (k:KK):cK k.val=k:=Fin.ext (Nat.mod_eq_of_lt k.isLt)
theorem cK_add (a b:Nat):cK ((a+b) % pp)=cK a+cK b:=Fin.ext (by
 rw [Fin.val_add,cK_val,cK_val,cK_val,Nat.mod_mod,←Nat.add_mod])
theorem cK_mul (a b:Nat):cK (a*b % pp)=cK a*cK b:=Fin.ext (by
 rw [Fin.val_mul,cK_val,cK_val,cK_val,Nat.mod_mod,←Nat.mul_mod])
theorem cK_sub (a b:Nat):cK ((a+(pp - b % pp)) % pp)=cK a - cK b:=Fin.ext (by
 rw [Fin.sub_def,cK_val]
 show _=(pp - b % pp+a % pp) % pp
 rw [Nat.mod_mod,Nat.add_comm a,Nat.add_mod_mod])
theorem cK_zero:cK 0=0:=rfl
theorem cK_one:cK 1=1:=rfl
theorem cK_eq_zero {a:Nat} : cK a=0↔a % pp=0:=by
 rw [←cK_zero,cK_eq,Nat.zero_mod]
def invK (k:KK):KK:=cK (k.val ^ (pp - 2) % pp)
theorem invK_cK (a:Nat):invK (cK a)=cK (a ^ (pp - 2) % pp):=by
 unfold invK
 rw [cK_val,cK_eq,Nat.mod_mod,Nat.mod_mod,←Nat.pow_mod]
def DN:Nat:=37095705934669439343138083508754565189542113879843219016388785533085940283555
def DK:KK:=cK DN
theorem DN_half:DN ^ ((pp - 1)/2) % pp=pp - 1:=by
 rw [←pw_eq pp 256 DN ((pp - 1)/2) (by decide)]
 decide +kernel
theorem nsqN (a b:Nat) (h:a*a % pp=DN*(b*b) % pp):b % pp=0:=by
 apply Classical.byContradiction
 intro hb
 have hd : ¬ pp ∣ b:=fun e=>hb (Nat.mod_eq_zero_of_dvd e)
 have f:=prm.fermat hd
 have hp:(a*a) ^ ((pp - 1)/2) % pp=(DN*(b*b)) ^ ((pp - 1)/2) % pp:=by
  rw [Nat.pow_mod,h,←Nat.pow_mod]
 have e2 : ∀ x:Nat,(x*x) ^ ((pp - 1)/2)=x ^ (pp - 1):=fun x=>by
  rw [←Nat.pow_two,←Nat.pow_mul,show 2*((pp - 1)/2)=pp - 1 by decide]
 rw [e2,Nat.mul_pow,e2,Nat.mul_mod,DN_half,f,Nat.mul_one] at hp
 by_cases ha:a % pp=0
 ·obtain ⟨k,hk⟩ : ∃ k,pp - 1=k+1:=⟨pp - 2,by decide⟩
  have:a ^ (pp - 1) % pp=0:=by rw [hk,Nat.pow_succ,Nat.mul_mod,ha,Nat.mul_zero,Nat.zero_mod]
  rw [this] at hp
  exact absurd hp (by decide)
 ·have hda : ¬ pp ∣ a:=fun e=>ha (Nat.mod_eq_zero_of_dvd e)
  rw [prm.fermat hda] at hp
  exact absurd hp (by decide)
def JN:Nat:=19681161376707505956807079304988542015446066515923890162744021073123829784752
theorem JN_sq:JN*JN % pp=pp - 1:=by decide
theorem FK:Fld DK invK where
 nz a b h:=by
  have h':a.val*b.val % pp=0:=by
   have:=congrArg Fin.val h
   rw [Fin.val_mul] at this
   exact this
  rcases prm.euclid (Nat.dvd_of_mod_eq_zero h') with e | e
  ·left;exact Fin.ext (by have:=Nat.eq_zero_of_dvd_of_lt e a.isLt;exact this)
  ·right;exact Fin.ext (by have:=Nat.eq_zero_of_dvd_of_lt e b.isLt;exact this)
 one:=by decide
 two:=by decide
 inv a h:=by
  have ha : ¬ a.val % pp=0:=fun e=>h (by rw [←cK_of a];exact cK_eq_zero.2 e)
  have:=inv_one a.val ha
  unfold invK
  refine Fin.ext ?_
  rw [Fin.val_mul,cK_val,Nat.mod_mod,this]
  rfl
 root:=⟨cK JN,by
  rw [←cK_mul,JN_sq]
  decide⟩
 nsq a b h:=by
  have h':a.val*a.val % pp=DN*(b.val*b.val) % pp:=by
   have e:cK (a.val*a.val)=cK (DN*(b.val*b.val)):=by
    have e1:=cK_mul a.val a.val
    have e2:=cK_mul DN (b.val*b.val % pp)
    have e3:=cK_mul b.val b.val
    rw [cK_mod,cK_of] at e1
    rw [e3,cK_mod,cK_of] at e2
    rw [e1,h]
    show DK*(b*b)=_
    rw [show DK=cK DN from rfl,←e2,cK_eq,Nat.mul_mod_mod]
   exact cK_eq.1 e
  have:=nsqN a.val b.val h'
  rw [←cK_of b];exact cK_eq_zero.2 this
end Go.Proofs.YtmaehekekkfpmaaDoor
/- Package field's calls as contracts of the small memory, over numbers; points as values. -/
namespace Go.Proofs.YtmaehekekkfpmaaDoor
open Go Go.RowKit
def bsum:List Value→Nat
 | []=>0
 | .int _ x :: l=>x.toNat+256*bsum l
 | _ :: l=>256*bsum l
def bnum:Value→Nat
 | .agg cs=>bsum cs.toList
 | _=>0
def IsB (A:Value):Prop:=A=bv (bnum A)
theorem bsum_range (n:Nat) : ∀ (m o:Nat),bsum ((List.range' o m).map fun i=>Value.int .u8 (by8 n i))=n/256 ^ o % 256 ^ m
 | 0,o=>by simp [bsum,Nat.mod_one]
 | m+1,o=>by
  rw [List.range'_succ,List.map_cons,bsum,bsum_range n m (o+1)]
  simp only [by8,Int.toNat_natCast]
  rw [Nat.pow_succ 256 o,←Nat.div_div_eq_div_mul,Nat.pow_succ 256 m,Nat.mul_comm (256 ^ m) 256,Nat.mod_mul]
theorem rn_pow:RN=256 ^ 32:=by decide
theorem bsum_bl (n:Nat):bsum (bl n)=n % RN:=by
 rw [rn_pow];unfold bl;rw [List.range_eq_range',bsum_range,Nat.pow_zero,Nat.div_one]
theorem by8_mod (n m i:Nat) (h:i<m):by8 (n % 256 ^ m) i=by8 n i:=by
 unfold by8
 congr 1
 have:256 ^ m=256 ^ i*(256*256 ^ (m - i - 1)):=by rw [←Nat.pow_succ',←Nat.pow_add];congr 1;omega
 rw [this,Nat.mod_mul_right_div_self,Nat.mod_mul_right_mod]
theorem bl_mod (n:Nat):bl (n % RN)=bl n:=by
 rw [rn_pow];unfold bl
 exact List.map_congr_left fun i hi=>by rw [by8_mod n 32 i (by simpa using hi)]
theorem bnum_bv (n:Nat):bnum (bv n)=n % RN:=bsum_bl n
theorem bv_mod (n:Nat):bv (n % RN)=bv n:=by unfold bv br;rw [bl_mod]
theorem isB_bv (n:Nat):IsB (bv n):=by unfold IsB;rw [bnum_bv,bv_mod]
theorem bnum_lt {A:Value} (h:IsB A):bnum A<RN:=by
 have:bnum A=bnum A % RN:=by
  have e:=congrArg bnum h
  rw [bnum_bv] at e;exact e
 rw [this];exact Nat.mod_lt _ (by decide)
theorem bnum_bv' {n:Nat} (h:n<RN):bnum (bv n)=n:=by rw [bnum_bv,Nat.mod_eq_of_lt h]
theorem flat_bl (n:Nat):(bl n).all flat1=true:=by simp [bl,flat1]
theorem flat_bv (n:Nat):flat (bv n)=true:=by
 show ((bl n).toArray.toList.all flat1)=true
 rw [List.toList_toArray];exact flat_bl n
def fad (a b:Nat):Nat:=(a+b) % pp
def fsb (a b:Nat):Nat:=(a+(pp - b % pp)) % pp
def fml (a b:Nat):Nat:=a*b % pp
def fiv (a:Nat):Nat:=a ^ (pp - 2) % pp
theorem fad_lt (a b:Nat):fad a b<pp:=Nat.mod_lt _ (by decide)
theorem fsb_lt (a b:Nat):fsb a b<pp:=Nat.mod_lt _ (by decide)
theorem fml_lt (a b:Nat):fml a b<pp:=Nat.mod_lt _ (by decide)
theorem fiv_lt (a:Nat):fiv a<pp:=Nat.mod_lt _ (by decide)
theorem lt_RN {a:Nat} (h:a<pp):a<RN:=Nat.lt_trans h pp_lt
def AD (A B:Value):Value:=bv (fad (bnum A) (bnum B))
def SB (A B:Value):Value:=bv (fsb (bnum A) (bnum B))
def ML (A B:Value):Value:=bv (fml (bnum A) (bnum B))
def IV (A:Value):Value:=bv (fiv (bnum A))
def gAdF:List Value→Option (List Prop × Value)
 | [A,B]=>some ([IsB A∧IsB B],AD A B)
 | _=>none
def gSbF:List Value→Option (List Prop × Value)
 | [A,B]=>some ([IsB A∧IsB B],SB A B)
 | _=>none
def gMlF:List Value→Option (List Prop × Value)
 | [A,B]=>some ([IsB A∧IsB B],ML A B)
 | _=>none
def gIvF:List Value→Option (List Prop × Value)
 | [A]=>some ([IsB A],IV A)
 | _=>none
def gCaF:List Value→Option (List Prop × Value)
 | [A]=>some ([IsB A],.bool (decide (bnum A<pp)))
 | _=>none
structure P4 where
 x:Nat
 y:Nat
 z:Nat
 t:Nat
def pcs (p:P4):List Value:=bl p.x ++ (bl p.y ++ (bl p.z ++ bl p.t))
def pv (p:P4):Value := .agg (pcs p).toArray
def p4:Value→P4
 | .agg cs=>⟨bsum (cs.toList.take 32),bsum ((cs.toList.drop 32).take 32),bsum ((cs.toList.drop 64).take 32),bsum ((cs.toList.drop 96).take 32)⟩
 | _=>⟨0,0,0,0⟩
structure P4.ok (p:P4):Prop where
 x:p.x<RN
 y:p.y<RN
 z:p.z<RN
 t:p.t<RN
theorem take_bl (n:Nat) (l:List Value):(bl n ++ l).take 32=bl n:=List.take_left' (bl_length n)
theorem drop_bl (n:Nat) (l:List Value):(bl n ++ l).drop 32=l:=List.drop_left' (bl_length n)
theorem p4_pv {p:P4} (h:p.ok):p4 (pv p)=p:=by
 obtain ⟨x,y,z,t⟩:=p
 obtain ⟨h1,h2,h3,h4⟩:=h
 simp only at h1 h2 h3 h4
 have e:p4 (pv ⟨x,y,z,t⟩)=⟨bsum ((pcs ⟨x,y,z,t⟩).take 32),bsum (((pcs ⟨x,y,z,t⟩).drop 32).take 32),bsum (((pcs ⟨x,y,z,t⟩).drop 64).take 32),bsum (((pcs ⟨x,y,z,t⟩).drop 96).take 32)⟩:=rfl
 rw [e]
 unfold pcs
 simp only
 have d64 : ∀ l:List Value,l.drop 64=(l.drop 32).drop 32:=fun l=>by rw [List.drop_drop]
 have d96 : ∀ l:List Value,l.drop 96=((l.drop 32).drop 32).drop 32:=fun l=>by rw [List.drop_drop,List.drop_drop]
 rw [d64,d96,take_bl,drop_bl,take_bl,drop_bl,take_bl,drop_bl,List.take_of_length_le (by rw [bl_length];omega)]
 rw [bsum_bl,bsum_bl,bsum_bl,bsum_bl,Nat.mod_eq_of_lt h1,Nat.mod_eq_of_lt h2,Nat.mod_eq_of_lt h3,Nat.mod_eq_of_lt h4]
def IsP (A:Value):Prop:=A=pv (p4 A)∧(p4 A).ok
theorem isP_pv {p:P4} (h:p.ok):IsP (pv p):=by unfold IsP;rw [p4_pv h];exact ⟨rfl,h⟩
theorem flat_pv (p:P4):flat (pv p)=true:=by
 show ((pcs p).toArray.toList.all flat1)=true
 rw [List.toList_toArray]
 unfold pcs
 simp only [List.all_append,flat_bl,Bool.and_self]
abbrev DN':Nat:=37095705934669439343138083508754565189542113879843219016388785533085940283555
abbrev GX:Nat:=15112221349535400772501151409588531511454012693041857206046113283949847762202
abbrev GY:Nat:=46316835694926478169428394003475163141307993866256225615783033603165251855960
def np:Nat:=Nat.max (Nat.max 2 1) (Nat.max 5 4)+1
def M0:Mem:=(((List.replicate np none).set 2 (some ⟨bl GY,26⟩)).set 5 (some ⟨bl DN',26⟩)).set 4 (some ⟨bl 1,26⟩)
theorem M0_flat:flatM M0=true:=by kernel_rfl
def gl4:List Nat:=[2,5,4]
def M1:Mem:=M0.set 1 (some ⟨bl GX,26⟩)
theorem M1_flat:flatM M1=true:=by kernel_rfl
def gl5:List Nat:=[2,5,1,4]
def F0:Cx:=((((((Cx.none.glo gl4).pure 58 gAdF).pure 56 gSbF).pure 40 gMlF).pure 39 gIvF).pure 53 gCaF)
end Go.Proofs.YtmaehekekkfpmaaDoor
