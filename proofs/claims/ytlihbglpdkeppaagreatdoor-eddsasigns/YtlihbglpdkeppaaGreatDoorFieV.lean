/- Plain number theory: inverses modulo p. -/
import Derived.Test.YtlihbglpdkeppaaGreatDoorFieD
import Derived.ProofKit
import Derived.OpenShut
import Derived.ChangeReads
import Derived.ChangeArms
import Derived.ChangeOld
import Derived.Below
import Derived.Test.YtlihbglpdkeppaaGreatDoorFieN
import Derived.Test.YtlihbglpdkeppaaGreatDoorFieI
import Derived.Test.YtlihbglpdkeppaaGreatDoorFieM
set_option linter.unusedSimpArgs false
set_option linter.unusedVariables false
namespace Go.Proofs.YtlihbglpdkeppaaGreatDoor
open Go Go.ChangeShapes Go.WideShapes Go.ChangeAt Go.RowKit
set_option maxRecDepth 100000
section
variable {H:Type} {enc:TypeId × Value→H}
theorem digits : ∀ (k:Nat) (f:Nat→Nat),(∀ i,i<k→f i<256) → ∃ n,n<256 ^ k ∧ ∀ i,i<k→n/256 ^ i % 256=f i
 | 0,_,_=>⟨0,by decide,fun i hi=>by omega⟩
 | k+1,f,h=>by
  obtain ⟨n,hn,hd⟩:=digits k f (fun i hi=>h i (by omega))
  have hk:=h k (by omega)
  refine ⟨n+f k*256 ^ k,?_,fun i hi => ?_⟩
  ·have:f k*256 ^ k≤255*256 ^ k:=Nat.mul_le_mul_right _ (by omega)
   rw [Nat.pow_succ];omega
  ·by_cases h1:i<k
   ·have e:(256:Nat) ^ k=256 ^ i*(256*256 ^ (k - i - 1)):=by
     rw [←Nat.pow_succ',←Nat.pow_add];congr 1;omega
    rw [e,show f k*(256 ^ i*(256*256 ^ (k - i - 1)))=256 ^ i*(256*(f k*256 ^ (k - i - 1))) by rw [Nat.mul_left_comm,Nat.mul_left_comm (f k)],Nat.add_mul_div_left _ _ (Nat.pow_pos (by decide)),Nat.add_mul_mod_self_left]
    exact hd i h1
   ·obtain rfl:i=k:=by omega
    rw [Nat.add_mul_div_right _ _ (Nat.pow_pos (by decide)),Nat.div_eq_of_lt hn,Nat.zero_add]
    exact Nat.mod_eq_of_lt hk
theorem trod_u8_any (W W':World) (b b':Nat) (sp sp':Nat→Bool) (hd hd':Bool) (m:Nat) (x:List Value) :
  DataW.trod enc Tryz.prog W b sp hd m 5 x=DataW.trod enc Tryz.prog W' b' sp' hd' m 5 x:=by
 cases m with
 | zero=>rfl
 | succ m =>
  rw [DataW.trod_step,DataW.trod_step]
  unfold DataW.trodStep
  simp only [Tryz.underlying5]
  rcases x with _ | ⟨v,_ | ⟨u,r⟩⟩
  ·rfl
  ·cases v <;> rfl
  ·cases v <;> rfl
theorem trod_32_any (W W':World) (b b':Nat) (sp sp':Nat→Bool) (hd hd':Bool) (m:Nat) (x:List Value) :
  DataW.trod enc Tryz.prog W b sp hd m 22 x=DataW.trod enc Tryz.prog W' b' sp' hd' m 22 x:=by
 cases m with
 | zero=>rfl
 | succ m =>
  rw [DataW.trod_step,DataW.trod_step]
  unfold DataW.trodStep
  simp only [Tryz.underlying22]
  congr 1
  congr 1
  congr 1
  funext i
  exact trod_u8_any W W' b b' sp sp' hd hd' m _
theorem open32 {W:World} {r:Reach} {b0 b:Nat} {sp:Nat→Bool} {held:Bool} {v:Value} {d:DataW H} {p:List MemPlace} (hok:Value.okWide Tryz.prog W r b0 22 v) (h:DataW.Trod enc Tryz.prog W b sp held 22 v d p) :
  ∃ n,n<RN∧v=bv n∧p = [] ∧ ∀ (W':World) (b':Nat) (sp':Nat→Bool) (held':Bool),DataW.Trod enc Tryz.prog W' b' sp' held' 22 v d []:=by
 simp only [Value.okWide,Tryz.underlying22] at hok
 obtain ⟨cs,rfl,hcs,_⟩:=hok
 obtain ⟨fuel,hf⟩:=h
 have h32:Tryz.prog.cellsOf 22=32:=by kernel_rfl
 have h1:Tryz.prog.cellsOf 5=1:=by kernel_rfl
 rw [h32] at hcs
 have hf2:=hf
 obtain ⟨xs,m,rfl,hx,hl,hlen,hall⟩:=DataW.trod_array Tryz.underlying22 hf
 rw [h1] at hall
 have key : ∀ i,i<32 → ∃ z:Int,cs[i]? = some (.int .u8 z)∧xs[i]? = some (.lit (.int .u8 z),[])∧(Lit.int .u8 z).wf=true:=fun i hi=>by
  have hi':=hall i hi
  rw [List.getElem?_eq_getElem (by omega)] at hi'
  obtain ⟨z,hc,e,wz⟩:=DataW.trod_int Tryz.underlying5 hi'
  refine ⟨z,?_,?_,wz⟩
  ·have:=congrArg (·[0]?) hc
   simpa [List.getElem?_take,List.getElem?_drop,Value.cells] using this
  ·rw [List.getElem?_eq_getElem (by omega),e]
 have hp:p = []:=by
  rw [Prod.mk.injEq] at hx
  rw [hx.2,List.flatMap_eq_nil_iff]
  intro y hy
  obtain ⟨i,hi,rfl⟩:=List.mem_iff_getElem.1 hy
  obtain ⟨z,_,e,_⟩:=key i (by omega)
  rw [List.getElem?_eq_getElem hi,Option.some.injEq] at e
  rw [e]
 subst hp
 -- the digits
 obtain ⟨n,hn,hd⟩:=digits 32 (fun i=>match cs[i]? with | some (.int .u8 z)=>z.toNat | _=>0) (fun i hi=>by
  obtain ⟨z,hc,_,wz⟩:=key i hi
  rw [hc]
  simp [Lit.wf,IntKind.min,IntKind.max,IntKind.signed,IntKind.bits] at wz
  simp only;omega)
 refine ⟨n,hn,?_,rfl,fun W' b' sp' held'=>⟨m+1,by rw [trod_32_any W' W b' b sp' sp held' held];exact hf2⟩⟩
 unfold bv
 congr 1
 apply Array.ext_getElem?
 intro i
 by_cases hi:i<32
 ·obtain ⟨z,hc,_,wz⟩:=key i hi
  rw [hc,br_get n i hi]
  have:=hd i hi
  rw [hc] at this
  simp [Lit.wf,IntKind.min,IntKind.max,IntKind.signed,IntKind.bits] at wz
  simp only at this
  congr 2
  unfold by8
  omega
 ·rw [Array.getElem?_eq_none (by omega),Array.getElem?_eq_none (by rw [br_size];omega)]
end
end Go.Proofs.YtlihbglpdkeppaaGreatDoor
namespace Go.Proofs.YtlihbglpdkeppaaGreatDoor
open Go
theorem pp_pos:0<pp:=by decide
theorem inv_one (a:Nat) (h : ¬ a % pp=0):a*(a ^ (pp - 2) % pp) % pp=1:=by
 have hd : ¬ pp ∣ a:=fun d=>h (Nat.mod_eq_zero_of_dvd d)
 have f:=prm.fermat hd
 rw [Nat.mul_mod_mod,Nat.mul_comm,←Nat.pow_succ,show (pp - 2).succ=pp - 1 by decide]
 exact f
end Go.Proofs.YtlihbglpdkeppaaGreatDoor
namespace Go.Proofs.YtlihbglpdkeppaaGreatDoor
open Go
theorem IN_sq:IN*IN % pp=pp - 1:=by decide
theorem pow_mod' (a k:Nat):(a % pp) ^ k % pp=a ^ k % pp:=(Nat.pow_mod a k pp).symm
theorem half_pow (a:Nat) (h : ¬ a % pp=0):a ^ ((pp - 1)/2) % pp=1∨a ^ ((pp - 1)/2) % pp=pp - 1:=by
 have hd : ¬ pp ∣ a:=fun d=>h (Nat.mod_eq_zero_of_dvd d)
 have f:=prm.fermat hd
 obtain ⟨x,hx⟩ : ∃ x,x=a ^ ((pp - 1)/2) % pp:=⟨_,rfl⟩
 have hlt:x<pp:=by rw [hx];exact Nat.mod_lt _ pp_pos
 have e:x*x % pp=1:=by
  rw [hx,←Nat.mul_mod,←Nat.pow_add,show (pp - 1)/2+(pp - 1)/2=pp - 1 by decide]
  exact f
 rw [←hx]
 have h0:x≠0:=by
  intro h0
  rw [h0,Nat.zero_mul,Nat.zero_mod] at e
  exact absurd e (by decide)
 have d:pp ∣ (x - 1)*(x+1):=by
  have e2:(x - 1)*(x+1)=x*x - 1:=by
   obtain ⟨y,rfl⟩ : ∃ y,x=y+1:=⟨x - 1,by omega⟩
   rw [Nat.add_sub_cancel,Nat.add_mul,Nat.mul_add,Nat.mul_add];omega
  rw [e2]
  apply Nat.dvd_of_mod_eq_zero
  have hpos:1≤x*x:=Nat.mul_pos (by omega) (by omega)
  exact Nat.sub_mod_eq_zero_of_mod_eq (by rw [e];decide)
 rcases prm.euclid d with d | d
 ·left
  have:=Nat.eq_zero_of_dvd_of_lt d (by omega)
  omega
 ·right
  have h2:=Nat.le_of_dvd (by omega) d
  omega
theorem rx_zero (q:Nat) (h:q % pp=0):rx q=0:=by
 obtain ⟨k,hk⟩ : ∃ k,(pp+3)/8=k+1:=⟨(pp+3)/8 - 1,by decide⟩
 unfold rx
 rw [hk,Nat.pow_succ,Nat.mul_mod,h,Nat.mul_zero,Nat.zero_mod]
theorem root_sq (a q:Nat) (hq:q=a*a % pp):rt q*rt q % pp=q % pp:=by
 have hql:q<pp:=by rw [hq];exact Nat.mod_lt _ pp_pos
 have hqm:q % pp=q:=Nat.mod_eq_of_lt hql
 unfold rt
 split
 ·assumption
 ·rename_i hne
  by_cases h0:a % pp=0
  ·exfalso
   refine hne ?_
   have q0:q % pp=0:=by rw [hqm,hq,Nat.mul_mod,h0,Nat.mul_zero,Nat.zero_mod]
   rw [rx_zero q q0,q0,Nat.zero_mul,Nat.zero_mod]
  ·-- the first try's square
   have ex:rx q*rx q % pp=(a*a)*(a ^ ((pp - 1)/2) % pp) % pp:=by
    unfold rx
    rw [←Nat.mul_mod,←Nat.pow_add,hq,pow_mod',←Nat.pow_two,←Nat.pow_mul,Nat.mul_mod_mod,←Nat.pow_add]
    rw [show 2*((pp+3)/8+(pp+3)/8)=2+(pp - 1)/2 by decide]
   rcases half_pow a h0 with e | e
   ·exfalso
    refine hne ?_
    rw [ex,e,Nat.mul_one,hqm,hq]
   ·rw [←Nat.mul_mod,show rx q*IN*(rx q*IN)=(rx q*rx q)*(IN*IN) by rw [Nat.mul_mul_mul_comm],Nat.mul_mod,ex,IN_sq,e,Nat.mod_mul_mod,Nat.mul_assoc,Nat.mul_mod (a*a),show (pp - 1)*(pp - 1) % pp=1 by decide,Nat.mul_one,Nat.mod_mod,hqm,hq]
theorem ev_lt (m:Nat) (h:m<pp):ev m<pp:=by
 unfold ev;split <;> omega
theorem ev_even (m:Nat) (h:m<pp):ev m % 2=0:=by
 have:pp % 2=1:=by decide
 unfold ev;split <;> omega
theorem neg_sq (m:Nat) (h:m≤pp):(pp - m)*(pp - m) % pp=m*m % pp:=by
 obtain ⟨k,hk⟩ : ∃ k,k+m=pp:=⟨pp - m,by omega⟩
 have e1:pp - m=k:=by omega
 rw [e1]
 have e2:k*k+pp*m=m*m+pp*k:=by
  rw [←hk,Nat.add_mul,Nat.add_mul,Nat.mul_comm m k];omega
 have:=congrArg (· % pp) e2
 simp only [Nat.add_mul_mod_self_left] at this
 exact this
theorem ev_sq (m:Nat) (h:m<pp):ev m*ev m % pp=m*m % pp:=by
 unfold ev;split
 ·exact neg_sq m (by omega)
 ·rfl
end Go.Proofs.YtlihbglpdkeppaaGreatDoor
