/- Plain number theory: inverses modulo p. -/
import Derived.Test.YtkhjnjlinfbfoaaGreatDoorFieN
import Derived.Test.YtkhjnjlinfbfoaaGreatDoorFieJ
import Derived.Test.YtkhjnjlinfbfoaaGreatDoorFieRJ
set_option linter.unusedSimpArgs false
set_option linter.unusedVariables false
namespace Go.Proofs.YtkhjnjlinfbfoaaGreatDoor
open Go
theorem pp_pos:0<pp:=by decide
theorem inv_one (a:Nat) (h : ¬ a % pp=0):a*(a ^ (pp - 2) % pp) % pp=1:=by
 have hd : ¬ pp ∣ a:=fun d=>h (Nat.mod_eq_zero_of_dvd d)
 have f:=prm.fermat hd
 rw [Nat.mul_mod_mod,Nat.mul_comm,←Nat.pow_succ,show (pp - 2).succ=pp - 1 by decide]
 exact f
end Go.Proofs.YtkhjnjlinfbfoaaGreatDoor
/- Plain number theory of roots modulo p: a square has a root, and it is one of two. No walk. -/
namespace Go.Proofs.YtkhjnjlinfbfoaaGreatDoor
open Go
theorem IN_sq:IN*IN % pp=pp - 1:=by decide
theorem pow_mod' (a k:Nat):(a % pp) ^ k % pp=a ^ k % pp:=(Nat.pow_mod a k pp).symm
theorem half_pow (a:Nat) (h : ¬ a % pp=0):a ^ ((pp - 1)/2) % pp=1∨a ^ ((pp - 1)/2) % pp=pp - 1:=by
 have hd : ¬ pp ∣ a:=fun d=>h (Nat.mod_eq_zero_of_dvd d)
 have f:=prm.fermat hd
 obtain ⟨x,hx⟩ : ∃ x,x=a ^ ((pp - 1)/2) % pp:=⟨_,rfl⟩
 have hlt:x<pp:=by rw [hx];exact Nat.mod_lt _ pp_pos
 have e:x*x % pp=1:=by
  rw [hx,←Nat.mul_mod,←Nat.pow_add,show (pp - 1)/2+(pp - 1)/2=pp - 1 by decide]
  exact f
 rw [←hx]
 have h0:x≠0:=by
  intro h0
  rw [h0,Nat.zero_mul,Nat.zero_mod] at e
  exact absurd e (by decide)
 have d:pp ∣ (x - 1)*(x+1):=by
  have e2:(x - 1)*(x+1)=x*x - 1:=by
   obtain ⟨y,rfl⟩ : ∃ y,x=y+1:=⟨x - 1,by omega⟩
   rw [Nat.add_sub_cancel,Nat.add_mul,Nat.mul_add,Nat.mul_add];omega
  rw [e2]
  apply Nat.dvd_of_mod_eq_zero
  have hpos:1≤x*x:=Nat.mul_pos (by omega) (by omega)
  exact Nat.sub_mod_eq_zero_of_mod_eq (by rw [e];decide)
 rcases prm.euclid d with d | d
 ·left
  have:=Nat.eq_zero_of_dvd_of_lt d (by omega)
  omega
 ·right
  have h2:=Nat.le_of_dvd (by omega) d
  omega
theorem rx_zero (q:Nat) (h:q % pp=0):rx q=0:=by
 obtain ⟨k,hk⟩ : ∃ k,(pp+3)/8=k+1:=⟨(pp+3)/8 - 1,by decide⟩
 unfold rx
 rw [hk,Nat.pow_succ,Nat.mul_mod,h,Nat.mul_zero,Nat.zero_mod]
theorem root_sq (a q:Nat) (hq:q=a*a % pp):rt q*rt q % pp=q % pp:=by
 have hql:q<pp:=by rw [hq];exact Nat.mod_lt _ pp_pos
 have hqm:q % pp=q:=Nat.mod_eq_of_lt hql
 unfold rt
 split
 ·assumption
 ·rename_i hne
  by_cases h0:a % pp=0
  ·exfalso
   refine hne ?_
   have q0:q % pp=0:=by rw [hqm,hq,Nat.mul_mod,h0,Nat.mul_zero,Nat.zero_mod]
   rw [rx_zero q q0,q0,Nat.zero_mul,Nat.zero_mod]
  ·-- the first try's square
   have ex:rx q*rx q % pp=(a*a)*(a ^ ((pp - 1)/2) % pp) % pp:=by
    unfold rx
    rw [←Nat.mul_mod,←Nat.pow_add,hq,pow_mod',←Nat.pow_two,←Nat.pow_mul,Nat.mul_mod_mod,←Nat.pow_add]
    rw [show 2*((pp+3)/8+(pp+3)/8)=2+(pp - 1)/2 by decide]
   rcases half_pow a h0 with e | e
   ·exfalso
    refine hne ?_
    rw [ex,e,Nat.mul_one,hqm,hq]
   ·rw [←Nat.mul_mod,show rx q*IN*(rx q*IN)=(rx q*rx q)*(IN*IN) by rw [Nat.mul_mul_mul_comm],Nat.mul_mod,ex,IN_sq,e,Nat.mod_mul_mod,Nat.mul_assoc,Nat.mul_mod (a*a),show (pp - 1)*(pp - 1) % pp=1 by decide,Nat.mul_one,Nat.mod_mod,hqm,hq]
theorem ev_lt (m:Nat) (h:m<pp):ev m<pp:=by
 unfold ev;split <;> omega
theorem ev_even (m:Nat) (h:m<pp):ev m % 2=0:=by
 have:pp % 2=1:=by decide
 unfold ev;split <;> omega
theorem neg_sq (m:Nat) (h:m≤pp):(pp - m)*(pp - m) % pp=m*m % pp:=by
 obtain ⟨k,hk⟩ : ∃ k,k+m=pp:=⟨pp - m,by omega⟩
 have e1:pp - m=k:=by omega
 rw [e1]
 have e2:k*k+pp*m=m*m+pp*k:=by
  rw [←hk,Nat.add_mul,Nat.add_mul,Nat.mul_comm m k];omega
 have:=congrArg (· % pp) e2
 simp only [Nat.add_mul_mod_self_left] at this
 exact this
theorem ev_sq (m:Nat) (h:m<pp):ev m*ev m % pp=m*m % pp:=by
 unfold ev;split
 ·exact neg_sq m (by omega)
 ·rfl
end Go.Proofs.YtkhjnjlinfbfoaaGreatDoor
/- Polynomial identities of the curve: the sum is on the curve, and it is associative. -/
namespace Go.Proofs.YtkhjnjlinfbfoaaGreatDoor
instance:NeZero pp:=⟨by decide⟩
abbrev KK:Type:=Fin pp
def assocX0_0 (d x1 y1 x2 y2 x3 y3:KK):KK:=(-d*d*x1*x2*x2*x2*x2*x3*x3*y2*y2*y2*y3)+(-d*d*x1*x2*x2*x2*x3*y2*y2*y2*y2*y3*y3)+(d*d*x2*x2*x2*x2*x3*y1*y2*y2*y2*y3*y3)+(d*d*x2*x2*x2*x3*x3*y1*y2*y2*y2*y2*y3)+(-d*x1*x2*x2*x2*x2*x3*x3*y2*y3)+(-d*x1*x2*x2*x2*x3*x3*x3*y2*y2)+(-d*x1*x2*x2*x2*x3*y2*y2)+(d*x1*x2*x2*y2*y2*y2*y3*y3*y3)
def assocX0_1 (d x1 y1 x2 y2 x3 y3:KK):KK:=(-d*x1*x2*x2*y2*y2*y2*y3)+(d*x1*x2*x3*y2*y2*y2*y2*y3*y3)+(d*x2*x2*x2*x2*x3*y1*y2*y3*y3)+(d*x2*x2*x2*y1*y2*y2*y3*y3*y3)+(-d*x2*x2*x2*y1*y2*y2*y3)+(-d*x2*x2*x3*x3*x3*y1*y2*y2*y2)+(-d*x2*x2*x3*y1*y2*y2*y2)+(-d*x2*x3*x3*y1*y2*y2*y2*y2*y3)
def assocX1_0 (d x1 y1 x2 y2 x3 y3:KK):KK:=(d*d*x1*x1*x2*x2*x3*x3*x3*y1*y2*y3*y3)+(-d*d*x1*x1*x2*x3*x3*y1*y2*y2*y3*y3*y3)+(-d*d*x1*x2*x2*x3*x3*y1*y1*y2*y3*y3*y3)+(d*d*x1*x2*x3*x3*x3*y1*y1*y2*y2*y3*y3)+(d*x1*x1*x1*x2*x2*x3*x3*y2*y3)+(d*x1*x1*x1*x2*x3*x3*x3*y3*y3)+(d*x1*x1*x1*x2*x3*y2*y2*y3*y3)+(d*x1*x1*x1*x3*x3*y2*y3*y3*y3)
def assocX1_1 (d x1 y1 x2 y2 x3 y3:KK):KK:=(-d*x1*x1*x2*x2*x3*y1*y2*y3*y3)+(-d*x1*x1*x2*x3*x3*y1*y2*y2*y3)+(d*x1*x1*x2*x3*x3*y1*y3*y3*y3)+(d*x1*x1*x3*x3*x3*y1*y2*y3*y3)+(-d*x1*x2*x2*x3*x3*y1*y1*y2*y3)+(d*x1*x2*x2*x3*x3*y2*y3)+(-d*x1*x2*x3*x3*x3*y1*y1*y3*y3)+(d*x1*x2*x3*x3*x3*y3*y3)
def assocX1_2 (d x1 y1 x2 y2 x3 y3:KK):KK:=(-d*x1*x2*x3*y1*y1*y2*y2*y3*y3)+(d*x1*x2*x3*y2*y2*y3*y3)+(-d*x1*x3*x3*y1*y1*y2*y3*y3*y3)+(d*x1*x3*x3*y2*y3*y3*y3)+(d*x2*x2*x3*y1*y1*y1*y2*y3*y3)+(-d*x2*x2*x3*y1*y2*y3*y3)+(d*x2*x3*x3*y1*y1*y1*y2*y2*y3)+(-d*x2*x3*x3*y1*y1*y1*y3*y3*y3)
def assocX1_3 (d x1 y1 x2 y2 x3 y3:KK):KK:=(-d*x2*x3*x3*y1*y2*y2*y3)+(d*x2*x3*x3*y1*y3*y3*y3)+(-d*x3*x3*x3*y1*y1*y1*y2*y3*y3)+(d*x3*x3*x3*y1*y2*y3*y3)+(x1*x1*x1*x2*x3*x3*x3)+(-x1*x1*x1*x2*x3*y3*y3)+(x1*x1*x1*x2*x3)+(x1*x1*x1*x3*x3*y2*y3)
def assocX1_4 (d x1 y1 x2 y2 x3 y3:KK):KK:=(-x1*x1*x1*y2*y3*y3*y3)+(x1*x1*x1*y2*y3)+(x1*x1*x2*x3*x3*y1*y3)+(-x1*x1*x2*y1*y3*y3*y3)+(x1*x1*x2*y1*y3)+(x1*x1*x3*x3*x3*y1*y2)+(-x1*x1*x3*y1*y2*y3*y3)+(x1*x1*x3*y1*y2)
def assocX1_5 (d x1 y1 x2 y2 x3 y3:KK):KK:=(-x1*x2*x3*x3*x3*y1*y1)+(x1*x2*x3*x3*x3)+(x1*x2*x3*y1*y1*y3*y3)+(-x1*x2*x3*y1*y1)+(-x1*x2*x3*y3*y3)+(x1*x2*x3)+(-x1*x3*x3*y1*y1*y2*y3)+(x1*x3*x3*y2*y3)
def assocX1_6 (d x1 y1 x2 y2 x3 y3:KK):KK:=(x1*y1*y1*y2*y3*y3*y3)+(-x1*y1*y1*y2*y3)+(-x1*y2*y3*y3*y3)+(x1*y2*y3)+(-x2*x3*x3*y1*y1*y1*y3)+(x2*x3*x3*y1*y3)+(x2*y1*y1*y1*y3*y3*y3)+(-x2*y1*y1*y1*y3)
def assocX1_7 (d x1 y1 x2 y2 x3 y3:KK):KK:=(-x2*y1*y3*y3*y3)+(x2*y1*y3)+(-x3*x3*x3*y1*y1*y1*y2)+(x3*x3*x3*y1*y2)+(x3*y1*y1*y1*y2*y3*y3)+(-x3*y1*y1*y1*y2)+(-x3*y1*y2*y3*y3)+(x3*y1*y2)
def assocX2_0 (d x1 y1 x2 y2 x3 y3:KK):KK:=(-d*x1*x1*x2*x2*x3*y1*y2)+(d*x1*x1*x2*y1*y2*y2*y3)+(d*x1*x2*x2*y1*y1*y2*y3)+(-d*x1*x2*x3*y1*y1*y2*y2)+(-x1*x1*x1*x2*x2*x2*x3)+(-x1*x1*x1*x2*x2*y2*y3)+(x1*x1*x1*x2*x3*y2*y2)+(-x1*x1*x1*x2*x3)
def assocX2_1 (d x1 y1 x2 y2 x3 y3:KK):KK:=(x1*x1*x1*y2*y2*y2*y3)+(-x1*x1*x1*y2*y3)+(-x1*x1*x2*x2*x2*y1*y3)+(-x1*x1*x2*x2*x3*y1*y2)+(x1*x1*x2*y1*y2*y2*y3)+(-x1*x1*x2*y1*y3)+(x1*x1*x3*y1*y2*y2*y2)+(-x1*x1*x3*y1*y2)
def assocX2_2 (d x1 y1 x2 y2 x3 y3:KK):KK:=(x1*x2*x2*x2*x3*y1*y1)+(-x1*x2*x2*x2*x3)+(x1*x2*x2*y1*y1*y2*y3)+(-x1*x2*x2*y2*y3)+(-x1*x2*x3*y1*y1*y2*y2)+(x1*x2*x3*y1*y1)+(x1*x2*x3*y2*y2)+(-x1*x2*x3)
def assocX2_3 (d x1 y1 x2 y2 x3 y3:KK):KK:=(-x1*y1*y1*y2*y2*y2*y3)+(x1*y1*y1*y2*y3)+(x1*y2*y2*y2*y3)+(-x1*y2*y3)+(x2*x2*x2*y1*y1*y1*y3)+(-x2*x2*x2*y1*y3)+(x2*x2*x3*y1*y1*y1*y2)+(-x2*x2*x3*y1*y2)
def assocX2_4 (d x1 y1 x2 y2 x3 y3:KK):KK:=(-x2*y1*y1*y1*y2*y2*y3)+(x2*y1*y1*y1*y3)+(x2*y1*y2*y2*y3)+(-x2*y1*y3)+(-x3*y1*y1*y1*y2*y2*y2)+(x3*y1*y1*y1*y2)+(x3*y1*y2*y2*y2)+(-x3*y1*y2)
set_option maxHeartbeats 2000000 in
theorem assocX (d x1 y1 x2 y2 x3 y3:KK):((x1*y2+x2*y1)*(1-(d*x1*x2*y1*y2))*y3+x3*(y1*y2+x1*x2)*(1+(d*x1*x2*y1*y2)))*((1-(d*x3*x2*y3*y2)*(d*x3*x2*y3*y2))+d*(x3*y2+x2*y3)*(y3*y2+x3*x2)*x1*y1) - ((x3*y2+x2*y3)*(1-(d*x3*x2*y3*y2))*y1+x1*(y3*y2+x3*x2)*(1+(d*x3*x2*y3*y2)))*((1-(d*x1*x2*y1*y2)*(d*x1*x2*y1*y2))+d*(x1*y2+x2*y1)*(y1*y2+x1*x2)*x3*y3)=(assocX0_0 d x1 y1 x2 y2 x3 y3+assocX0_1 d x1 y1 x2 y2 x3 y3)*(y1*y1 - x1*x1 - 1 - d*(x1*x1*(y1*y1)))+(assocX1_0 d x1 y1 x2 y2 x3 y3+assocX1_1 d x1 y1 x2 y2 x3 y3+assocX1_2 d x1 y1 x2 y2 x3 y3+assocX1_3 d x1 y1 x2 y2 x3 y3+assocX1_4 d x1 y1 x2 y2 x3 y3+assocX1_5 d x1 y1 x2 y2 x3 y3+assocX1_6 d x1 y1 x2 y2 x3 y3+assocX1_7 d x1 y1 x2 y2 x3 y3)*(y2*y2 - x2*x2 - 1 - d*(x2*x2*(y2*y2)))+(assocX2_0 d x1 y1 x2 y2 x3 y3+assocX2_1 d x1 y1 x2 y2 x3 y3+assocX2_2 d x1 y1 x2 y2 x3 y3+assocX2_3 d x1 y1 x2 y2 x3 y3+assocX2_4 d x1 y1 x2 y2 x3 y3)*(y3*y3 - x3*x3 - 1 - d*(x3*x3*(y3*y3))):=by
 simp only [assocX0_0,assocX0_1,assocX1_0,assocX1_1,assocX1_2,assocX1_3,assocX1_4,assocX1_5,assocX1_6,assocX1_7,assocX2_0,assocX2_1,assocX2_2,assocX2_3,assocX2_4]
 grind
def assocY0_0 (d x1 y1 x2 y2 x3 y3:KK):KK:=(d*d*x1*x2*x2*x2*x2*x3*y2*y2*y2*y3*y3)+(d*d*x1*x2*x2*x2*x3*x3*y2*y2*y2*y2*y3)+(-d*d*x2*x2*x2*x2*x3*x3*y1*y2*y2*y2*y3)+(-d*d*x2*x2*x2*x3*y1*y2*y2*y2*y2*y3*y3)+(d*x1*x2*x2*x2*x2*x3*y2*y3*y3)+(d*x1*x2*x2*x2*y2*y2*y3*y3*y3)+(-d*x1*x2*x2*x2*y2*y2*y3)+(-d*x1*x2*x2*x3*x3*x3*y2*y2*y2)
def assocY0_1 (d x1 y1 x2 y2 x3 y3:KK):KK:=(-d*x1*x2*x2*x3*y2*y2*y2)+(-d*x1*x2*x3*x3*y2*y2*y2*y2*y3)+(-d*x2*x2*x2*x2*x3*x3*y1*y2*y3)+(-d*x2*x2*x2*x3*x3*x3*y1*y2*y2)+(-d*x2*x2*x2*x3*y1*y2*y2)+(d*x2*x2*y1*y2*y2*y2*y3*y3*y3)+(-d*x2*x2*y1*y2*y2*y2*y3)+(d*x2*x3*y1*y2*y2*y2*y2*y3*y3)
def assocY1_0 (d x1 y1 x2 y2 x3 y3:KK):KK:=(d*d*x1*x1*x2*x2*x3*x3*y1*y2*y3*y3*y3)+(-d*d*x1*x1*x2*x3*x3*x3*y1*y2*y2*y3*y3)+(-d*d*x1*x2*x2*x3*x3*x3*y1*y1*y2*y3*y3)+(d*d*x1*x2*x3*x3*y1*y1*y2*y2*y3*y3*y3)+(-d*x1*x1*x1*x2*x2*x3*y2*y3*y3)+(-d*x1*x1*x1*x2*x3*x3*y2*y2*y3)+(d*x1*x1*x1*x2*x3*x3*y3*y3*y3)+(d*x1*x1*x1*x3*x3*x3*y2*y3*y3)
def assocY1_1 (d x1 y1 x2 y2 x3 y3:KK):KK:=(d*x1*x1*x2*x2*x3*x3*y1*y2*y3)+(d*x1*x1*x2*x3*x3*x3*y1*y3*y3)+(d*x1*x1*x2*x3*y1*y2*y2*y3*y3)+(d*x1*x1*x3*x3*y1*y2*y3*y3*y3)+(d*x1*x2*x2*x3*y1*y1*y2*y3*y3)+(-d*x1*x2*x2*x3*y2*y3*y3)+(d*x1*x2*x3*x3*y1*y1*y2*y2*y3)+(-d*x1*x2*x3*x3*y1*y1*y3*y3*y3)
def assocY1_2 (d x1 y1 x2 y2 x3 y3:KK):KK:=(-d*x1*x2*x3*x3*y2*y2*y3)+(d*x1*x2*x3*x3*y3*y3*y3)+(-d*x1*x3*x3*x3*y1*y1*y2*y3*y3)+(d*x1*x3*x3*x3*y2*y3*y3)+(-d*x2*x2*x3*x3*y1*y1*y1*y2*y3)+(d*x2*x2*x3*x3*y1*y2*y3)+(-d*x2*x3*x3*x3*y1*y1*y1*y3*y3)+(d*x2*x3*x3*x3*y1*y3*y3)
def assocY1_3 (d x1 y1 x2 y2 x3 y3:KK):KK:=(-d*x2*x3*y1*y1*y1*y2*y2*y3*y3)+(d*x2*x3*y1*y2*y2*y3*y3)+(-d*x3*x3*y1*y1*y1*y2*y3*y3*y3)+(d*x3*x3*y1*y2*y3*y3*y3)+(x1*x1*x1*x2*x3*x3*y3)+(-x1*x1*x1*x2*y3*y3*y3)+(x1*x1*x1*x2*y3)+(x1*x1*x1*x3*x3*x3*y2)
def assocY1_4 (d x1 y1 x2 y2 x3 y3:KK):KK:=(-x1*x1*x1*x3*y2*y3*y3)+(x1*x1*x1*x3*y2)+(x1*x1*x2*x3*x3*x3*y1)+(-x1*x1*x2*x3*y1*y3*y3)+(x1*x1*x2*x3*y1)+(x1*x1*x3*x3*y1*y2*y3)+(-x1*x1*y1*y2*y3*y3*y3)+(x1*x1*y1*y2*y3)
def assocY1_5 (d x1 y1 x2 y2 x3 y3:KK):KK:=(-x1*x2*x3*x3*y1*y1*y3)+(x1*x2*x3*x3*y3)+(x1*x2*y1*y1*y3*y3*y3)+(-x1*x2*y1*y1*y3)+(-x1*x2*y3*y3*y3)+(x1*x2*y3)+(-x1*x3*x3*x3*y1*y1*y2)+(x1*x3*x3*x3*y2)
def assocY1_6 (d x1 y1 x2 y2 x3 y3:KK):KK:=(x1*x3*y1*y1*y2*y3*y3)+(-x1*x3*y1*y1*y2)+(-x1*x3*y2*y3*y3)+(x1*x3*y2)+(-x2*x3*x3*x3*y1*y1*y1)+(x2*x3*x3*x3*y1)+(x2*x3*y1*y1*y1*y3*y3)+(-x2*x3*y1*y1*y1)
def assocY1_7 (d x1 y1 x2 y2 x3 y3:KK):KK:=(-x2*x3*y1*y3*y3)+(x2*x3*y1)+(-x3*x3*y1*y1*y1*y2*y3)+(x3*x3*y1*y2*y3)+(y1*y1*y1*y2*y3*y3*y3)+(-y1*y1*y1*y2*y3)+(-y1*y2*y3*y3*y3)+(y1*y2*y3)
def assocY2_0 (d x1 y1 x2 y2 x3 y3:KK):KK:=(-d*x1*x1*x2*x2*y1*y2*y3)+(d*x1*x1*x2*x3*y1*y2*y2)+(d*x1*x2*x2*x3*y1*y1*y2)+(-d*x1*x2*y1*y1*y2*y2*y3)+(-x1*x1*x1*x2*x2*x2*y3)+(-x1*x1*x1*x2*x2*x3*y2)+(x1*x1*x1*x2*y2*y2*y3)+(-x1*x1*x1*x2*y3)
def assocY2_1 (d x1 y1 x2 y2 x3 y3:KK):KK:=(x1*x1*x1*x3*y2*y2*y2)+(-x1*x1*x1*x3*y2)+(-x1*x1*x2*x2*x2*x3*y1)+(-x1*x1*x2*x2*y1*y2*y3)+(x1*x1*x2*x3*y1*y2*y2)+(-x1*x1*x2*x3*y1)+(x1*x1*y1*y2*y2*y2*y3)+(-x1*x1*y1*y2*y3)
def assocY2_2 (d x1 y1 x2 y2 x3 y3:KK):KK:=(x1*x2*x2*x2*y1*y1*y3)+(-x1*x2*x2*x2*y3)+(x1*x2*x2*x3*y1*y1*y2)+(-x1*x2*x2*x3*y2)+(-x1*x2*y1*y1*y2*y2*y3)+(x1*x2*y1*y1*y3)+(x1*x2*y2*y2*y3)+(-x1*x2*y3)
def assocY2_3 (d x1 y1 x2 y2 x3 y3:KK):KK:=(-x1*x3*y1*y1*y2*y2*y2)+(x1*x3*y1*y1*y2)+(x1*x3*y2*y2*y2)+(-x1*x3*y2)+(x2*x2*x2*x3*y1*y1*y1)+(-x2*x2*x2*x3*y1)+(x2*x2*y1*y1*y1*y2*y3)+(-x2*x2*y1*y2*y3)
def assocY2_4 (d x1 y1 x2 y2 x3 y3:KK):KK:=(-x2*x3*y1*y1*y1*y2*y2)+(x2*x3*y1*y1*y1)+(x2*x3*y1*y2*y2)+(-x2*x3*y1)+(-y1*y1*y1*y2*y2*y2*y3)+(y1*y1*y1*y2*y3)+(y1*y2*y2*y2*y3)+(-y1*y2*y3)
set_option maxHeartbeats 2000000 in
theorem assocY (d x1 y1 x2 y2 x3 y3:KK):((y1*y2+x1*x2)*(1+(d*x1*x2*y1*y2))*y3+(x1*y2+x2*y1)*(1-(d*x1*x2*y1*y2))*x3)*((1-(d*x3*x2*y3*y2)*(d*x3*x2*y3*y2))-d*(x3*y2+x2*y3)*(y3*y2+x3*x2)*x1*y1) - ((y3*y2+x3*x2)*(1+(d*x3*x2*y3*y2))*y1+(x3*y2+x2*y3)*(1-(d*x3*x2*y3*y2))*x1)*((1-(d*x1*x2*y1*y2)*(d*x1*x2*y1*y2))-d*(x1*y2+x2*y1)*(y1*y2+x1*x2)*x3*y3)=(assocY0_0 d x1 y1 x2 y2 x3 y3+assocY0_1 d x1 y1 x2 y2 x3 y3)*(y1*y1 - x1*x1 - 1 - d*(x1*x1*(y1*y1)))+(assocY1_0 d x1 y1 x2 y2 x3 y3+assocY1_1 d x1 y1 x2 y2 x3 y3+assocY1_2 d x1 y1 x2 y2 x3 y3+assocY1_3 d x1 y1 x2 y2 x3 y3+assocY1_4 d x1 y1 x2 y2 x3 y3+assocY1_5 d x1 y1 x2 y2 x3 y3+assocY1_6 d x1 y1 x2 y2 x3 y3+assocY1_7 d x1 y1 x2 y2 x3 y3)*(y2*y2 - x2*x2 - 1 - d*(x2*x2*(y2*y2)))+(assocY2_0 d x1 y1 x2 y2 x3 y3+assocY2_1 d x1 y1 x2 y2 x3 y3+assocY2_2 d x1 y1 x2 y2 x3 y3+assocY2_3 d x1 y1 x2 y2 x3 y3+assocY2_4 d x1 y1 x2 y2 x3 y3)*(y3*y3 - x3*x3 - 1 - d*(x3*x3*(y3*y3))):=by
 simp only [assocY0_0,assocY0_1,assocY1_0,assocY1_1,assocY1_2,assocY1_3,assocY1_4,assocY1_5,assocY1_6,assocY1_7,assocY2_0,assocY2_1,assocY2_2,assocY2_3,assocY2_4]
 grind
def close0_0 (d x1 y1 x2 y2:KK):KK:=(d*d*d*x1*x1*x2*x2*x2*x2*y1*y1*y2*y2*y2*y2)+(-d*d*x1*x1*x2*x2*x2*x2*y2*y2*y2*y2)+(d*d*x2*x2*x2*x2*y1*y1*y2*y2*y2*y2)+(-d*d*x2*x2*x2*x2*y2*y2*y2*y2)+(-d*x1*x1*x2*x2*x2*x2*y2*y2)+(d*x1*x1*x2*x2*y2*y2*y2*y2)+(d*x2*x2*x2*x2*y1*y1*y2*y2)+(-2*d*x2*x2*x2*x2*y2*y2*y2*y2)
def close0_1 (d x1 y1 x2 y2:KK):KK:=(-d*x2*x2*y1*y1*y2*y2*y2*y2)+(-2*d*x2*x2*y2*y2)+(-2*x2*x2*x2*x2*y2*y2)+(x2*x2*x2*x2)+(2*x2*x2*y2*y2*y2*y2)+(-4*x2*x2*y2*y2)+(y2*y2*y2*y2)
def close1_0 (d x1 y1 x2 y2:KK):KK:=(d*x1*x1*x1*x1*x2*x2*y2*y2)+(2*d*x1*x1*x2*x2*y2*y2)+(d*x2*x2*y1*y1*y1*y1*y2*y2)+(-2*d*x2*x2*y1*y1*y2*y2)+(d*x2*x2*y2*y2)+(2*x1*x1*x2*x2*y2*y2)+(-x1*x1*x2*x2)+(x1*x1*y2*y2)
def close1_1 (d x1 y1 x2 y2:KK):KK:=(-2*x2*x2*y1*y1*y2*y2)+(x2*x2*y1*y1)+(2*x2*x2*y2*y2)+(-x2*x2)+(-y1*y1*y2*y2)+(y2*y2)+(1)
theorem closeE (d x1 y1 x2 y2:KK):((y1*y2+x1*x2)*(1+(d*x1*x2*y1*y2)))*((y1*y2+x1*x2)*(1+(d*x1*x2*y1*y2))) - ((x1*y2+x2*y1)*(1-(d*x1*x2*y1*y2)))*((x1*y2+x2*y1)*(1-(d*x1*x2*y1*y2))) - (1-(d*x1*x2*y1*y2)*(d*x1*x2*y1*y2))*(1-(d*x1*x2*y1*y2)*(d*x1*x2*y1*y2)) - d*((x1*y2+x2*y1)*(x1*y2+x2*y1)*((y1*y2+x1*x2)*(y1*y2+x1*x2)))=(close0_0 d x1 y1 x2 y2+close0_1 d x1 y1 x2 y2)*(y1*y1 - x1*x1 - 1 - d*(x1*x1*(y1*y1)))+(close1_0 d x1 y1 x2 y2+close1_1 d x1 y1 x2 y2)*(y2*y2 - x2*x2 - 1 - d*(x2*x2*(y2*y2))):=by
 simp only [close0_0,close0_1,close1_0,close1_1]
 grind
end Go.Proofs.YtkhjnjlinfbfoaaGreatDoor
