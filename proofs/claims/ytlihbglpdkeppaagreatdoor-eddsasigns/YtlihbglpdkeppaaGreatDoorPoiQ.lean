/- The numbers modulo p as a field in which -1 is a square and the curve's d is none. -/
import Derived.Test.YtlihbglpdkeppaaGreatDoorFieV
import Derived.Test.YtlihbglpdkeppaaGreatDoorPoiN
set_option linter.unusedSimpArgs false
set_option linter.unusedVariables false
namespace Go.Proofs.YtlihbglpdkeppaaGreatDoor
def cK (n:Nat):KK:=Fin.ofNat pp n
theorem cK_val (n:Nat):(cK n).val=n % pp:=rfl
theorem cK_eq {a b:Nat} : cK a=cK b↔a % pp=b % pp:=by
 constructor
 ·intro h;have:=congrArg Fin.val h;exact this
 ·intro h;exact Fin.ext h
theorem cK_mod (a:Nat):cK (a % pp)=cK a:=cK_eq.2 (Nat.mod_mod _ _)
theorem cK_of (k:KK):cK k.val=k:=Fin.ext (Nat.mod_eq_of_lt k.isLt)
theorem cK_add (a b:Nat):cK ((a+b) % pp)=cK a+cK b:=Fin.ext (by
 rw [Fin.val_add,cK_val,cK_val,cK_val,Nat.mod_mod,←Nat.add_mod])
theorem cK_mul (a b:Nat):cK (a*b % pp)=cK a*cK b:=Fin.ext (by
 rw [Fin.val_mul,cK_val,cK_val,cK_val,Nat.mod_mod,←Nat.mul_mod])
theorem cK_sub (a b:Nat):cK ((a+(pp - b % pp)) % pp)=cK a - cK b:=Fin.ext (by
 rw [Fin.sub_def,cK_val]
 show _=(pp - b % pp+a % pp) % pp
 rw [Nat.mod_mod,Nat.add_comm a,Nat.add_mod_mod])
theorem cK_zero:cK 0=0:=rfl
theorem cK_one:cK 1=1:=rfl
theorem cK_eq_zero {a:Nat} : cK a=0↔a % pp=0:=by
 rw [←cK_zero,cK_eq,Nat.zero_mod]
def invK (k:KK):KK:=cK (k.val ^ (pp - 2) % pp)
theorem invK_cK (a:Nat):invK (cK a)=cK (a ^ (pp - 2) % pp):=by
 unfold invK
 rw [cK_val,cK_eq,Nat.mod_mod,Nat.mod_mod,←Nat.pow_mod]
def DN:Nat:=37095705934669439343138083508754565189542113879843219016388785533085940283555
def DK:KK:=cK DN
theorem DN_half:DN ^ ((pp - 1)/2) % pp=pp - 1:=by
 rw [←pw_eq pp 256 DN ((pp - 1)/2) (by decide)]
 decide +kernel
theorem nsqN (a b:Nat) (h:a*a % pp=DN*(b*b) % pp):b % pp=0:=by
 apply Classical.byContradiction
 intro hb
 have hd : ¬ pp ∣ b:=fun e=>hb (Nat.mod_eq_zero_of_dvd e)
 have f:=prm.fermat hd
 have hp:(a*a) ^ ((pp - 1)/2) % pp=(DN*(b*b)) ^ ((pp - 1)/2) % pp:=by
  rw [Nat.pow_mod,h,←Nat.pow_mod]
 have e2 : ∀ x:Nat,(x*x) ^ ((pp - 1)/2)=x ^ (pp - 1):=fun x=>by
  rw [←Nat.pow_two,←Nat.pow_mul,show 2*((pp - 1)/2)=pp - 1 by decide]
 rw [e2,Nat.mul_pow,e2,Nat.mul_mod,DN_half,f,Nat.mul_one] at hp
 by_cases ha:a % pp=0
 ·obtain ⟨k,hk⟩ : ∃ k,pp - 1=k+1:=⟨pp - 2,by decide⟩
  have:a ^ (pp - 1) % pp=0:=by rw [hk,Nat.pow_succ,Nat.mul_mod,ha,Nat.mul_zero,Nat.zero_mod]
  rw [this] at hp
  exact absurd hp (by decide)
 ·have hda : ¬ pp ∣ a:=fun e=>ha (Nat.mod_eq_zero_of_dvd e)
  rw [prm.fermat hda] at hp
  exact absurd hp (by decide)
def JN:Nat:=19681161376707505956807079304988542015446066515923890162744021073123829784752
theorem JN_sq:JN*JN % pp=pp - 1:=by decide
theorem FK:Fld DK invK where
 nz a b h:=by
  have h':a.val*b.val % pp=0:=by
   have:=congrArg Fin.val h
   rw [Fin.val_mul] at this
   exact this
  rcases prm.euclid (Nat.dvd_of_mod_eq_zero h') with e | e
  ·left;exact Fin.ext (by have:=Nat.eq_zero_of_dvd_of_lt e a.isLt;exact this)
  ·right;exact Fin.ext (by have:=Nat.eq_zero_of_dvd_of_lt e b.isLt;exact this)
 one:=by decide
 two:=by decide
 inv a h:=by
  have ha : ¬ a.val % pp=0:=fun e=>h (by rw [←cK_of a];exact cK_eq_zero.2 e)
  have:=inv_one a.val ha
  unfold invK
  refine Fin.ext ?_
  rw [Fin.val_mul,cK_val,Nat.mod_mod,this]
  rfl
 root:=⟨cK JN,by
  rw [←cK_mul,JN_sq]
  decide⟩
 nsq a b h:=by
  have h':a.val*a.val % pp=DN*(b.val*b.val) % pp:=by
   have e:cK (a.val*a.val)=cK (DN*(b.val*b.val)):=by
    have e1:=cK_mul a.val a.val
    have e2:=cK_mul DN (b.val*b.val % pp)
    have e3:=cK_mul b.val b.val
    rw [cK_mod,cK_of] at e1
    rw [e3,cK_mod,cK_of] at e2
    rw [e1,h]
    show DK*(b*b)=_
    rw [show DK=cK DN from rfl,←e2,cK_eq,Nat.mul_mod_mod]
   exact cK_eq.1 e
  have:=nsqN a.val b.val h'
  rw [←cK_of b];exact cK_eq_zero.2 this
end Go.Proofs.YtlihbglpdkeppaaGreatDoor
