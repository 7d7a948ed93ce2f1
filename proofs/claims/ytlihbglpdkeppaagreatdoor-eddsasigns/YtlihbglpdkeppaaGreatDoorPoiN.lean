/- The group of a twisted Edwards curve, over any field in which -1 is a square and d is none. -/
import Derived.Test.YtlihbglpdkeppaaGreatDoorPoiM
set_option linter.unusedSimpArgs false
set_option linter.unusedVariables false
namespace Go.Proofs.YtlihbglpdkeppaaGreatDoor
theorem kmul_assoc (a b c:KK):a*b*c=a*(b*c):=by grind
theorem kmul_one (a:KK):a*1=a:=by grind
theorem kone_mul (a:KK):1*a=a:=by grind
theorem kzero_mul (a:KK):0*a=0:=by grind
theorem kmul_zero (a:KK):a*0=0:=by grind
theorem kadd_zero (a:KK):a+0=a:=by grind
theorem ksub_zero (a:KK):a - 0=a:=by grind
theorem ksub_self (a:KK):a - a=0:=by grind
theorem kadd_comm (a b:KK):a+b=b+a:=by grind
structure Fld (d:KK) (inv:KK→KK):Prop where
 nz : ∀ a b:KK,a*b=0→a=0∨b=0
 one:(1:KK)≠0
 two:(2:KK)≠0
 inv : ∀ a:KK,a≠0→a*inv a=1
 root : ∃ i:KK,i*i = -1
 nsq : ∀ a b:KK,a*a=d*(b*b)→b=0
def On (d x y:KK):Prop:=y*y - x*x - 1 - d*(x*x*(y*y))=0
variable {d:KK} {inv:KK→KK}
theorem Fld.cancel (F:Fld d inv) {a b c:KK} (hc:c≠0) (h:a*c=b*c):a=b:=by
 have:(a - b)*c=0:=by grind
 rcases F.nz _ _ this with h | h
 ·grind
 ·exact absurd h hc
theorem Fld.mul_ne (F:Fld d inv) {a b:KK} (ha:a≠0) (hb:b≠0):a*b≠0:=fun h=>by
 rcases F.nz _ _ h with h | h
 ·exact ha h
 ·exact hb h
theorem Fld.den (F:Fld d inv) {x1 y1 x2 y2:KK} (h1:On d x1 y1) (h2:On d x2 y2) (e:KK) (he:e*e=1):d*x1*x2*y1*y2≠e:=by
 intro hd
 obtain ⟨i,hi⟩:=F.root
 unfold On at h1 h2
 have k1:(i*x1+e*y1)*(i*x1+e*y1)=d*((x1*y1*(i*x2+y2))*(x1*y1*(i*x2+y2))):=by grind
 have k2:(i*x1 - e*y1)*(i*x1 - e*y1)=d*((x1*y1*(i*x2 - y2))*(x1*y1*(i*x2 - y2))):=by grind
 have b1:=F.nsq _ _ k1
 have b2:=F.nsq _ _ k2
 have b3:(x1*y1)*(2*y2)=0:=by grind
 rcases F.nz _ _ b3 with h | h
 ·apply F.one;grind
 ·rcases F.nz _ _ h with h | h
  ·exact F.two h
  ·apply F.one;grind
theorem Fld.plus_ne (F:Fld d inv) {x1 y1 x2 y2:KK} (h1:On d x1 y1) (h2:On d x2 y2):1+d*x1*x2*y1*y2≠0:=fun h =>
 F.den h1 h2 (-1) (by grind) (by grind)
theorem Fld.minus_ne (F:Fld d inv) {x1 y1 x2 y2:KK} (h1:On d x1 y1) (h2:On d x2 y2):1 - d*x1*x2*y1*y2≠0:=fun h =>
 F.den h1 h2 1 (by grind) (by grind)
structure Pt (d:KK) where
 x:KK
 y:KK
 on:On d x y
theorem Pt.ext' {p q:Pt d} (hx:p.x=q.x) (hy:p.y=q.y):p=q:=by
 cases p;cases q;simp only at hx hy;subst hx;subst hy;rfl
theorem add_on (F:Fld d inv) {x1 y1 x2 y2 X Y:KK} (h1:On d x1 y1) (h2:On d x2 y2) (hX:X*(1+d*x1*x2*y1*y2)=x1*y2+x2*y1) (hY:Y*(1 - d*x1*x2*y1*y2)=y1*y2+x1*x2):On d X Y:=by
 have n1:=F.plus_ne h1 h2
 have n2:=F.minus_ne h1 h2
 have c:=closeE d x1 y1 x2 y2
 unfold On at h1 h2 ⊢
 rw [h1,h2] at c
 have m:=F.mul_ne (F.mul_ne n1 n2) (F.mul_ne n1 n2)
 rw [←hX,←hY] at c
 refine F.cancel m ?_
 clear hX hY h1 h2 n1 n2 m
 generalize d*x1*x2*y1*y2=e at *
 rw [kmul_zero,kmul_zero,kadd_zero] at c
 rw [kzero_mul,←c]
 clear c
 grind
def Pt.add (F:Fld d inv) (p q:Pt d):Pt d :=
 ⟨(p.x*q.y+q.x*p.y)*inv (1+d*p.x*q.x*p.y*q.y),(p.y*q.y+p.x*q.x)*inv (1 - d*p.x*q.x*p.y*q.y),
  add_on F p.on q.on (by have:=F.inv _ (F.plus_ne p.on q.on);grind) (by have:=F.inv _ (F.minus_ne p.on q.on);grind)⟩
theorem Pt.add_x (F:Fld d inv) (p q:Pt d):(p.add F q).x*(1+d*p.x*q.x*p.y*q.y)=p.x*q.y+q.x*p.y:=by
 have:=F.inv _ (F.plus_ne p.on q.on)
 show (p.x*q.y+q.x*p.y)*inv (1+d*p.x*q.x*p.y*q.y)*_=_
 grind
theorem Pt.add_y (F:Fld d inv) (p q:Pt d):(p.add F q).y*(1 - d*p.x*q.x*p.y*q.y)=p.y*q.y+p.x*q.x:=by
 have:=F.inv _ (F.minus_ne p.on q.on)
 show (p.y*q.y+p.x*q.x)*inv (1 - d*p.x*q.x*p.y*q.y)*_=_
 grind
theorem Pt.add_unique (F:Fld d inv) (p q r:Pt d) (hx:r.x*(1+d*p.x*q.x*p.y*q.y)=p.x*q.y+q.x*p.y) (hy:r.y*(1 - d*p.x*q.x*p.y*q.y)=p.y*q.y+p.x*q.x):r=p.add F q :=
 Pt.ext' (F.cancel (F.plus_ne p.on q.on) (hx.trans (Pt.add_x F p q).symm)) (F.cancel (F.minus_ne p.on q.on) (hy.trans (Pt.add_y F p q).symm))
theorem Pt.add_comm (F:Fld d inv) (p q:Pt d):p.add F q=q.add F p :=
 Pt.add_unique F q p _ (by have:=Pt.add_x F p q;grind) (by have:=Pt.add_y F p q;grind)
theorem on_zero (d:KK):On d 0 1:=by
 unfold On
 simp only [kone_mul,kzero_mul,kmul_zero,ksub_zero,ksub_self]
def Pt.zero (d:KK):Pt d:=⟨0,1,on_zero d⟩
theorem Pt.add_zero (F:Fld d inv) (p:Pt d):p.add F (Pt.zero d)=p :=
 (Pt.add_unique F p (Pt.zero d) p (by simp only [Pt.zero];grind) (by simp only [Pt.zero];grind)).symm
theorem Pt.zero_add (F:Fld d inv) (p:Pt d):(Pt.zero d).add F p=p:=by rw [Pt.add_comm,Pt.add_zero]
def Pt.neg (p:Pt d):Pt d:=⟨-p.x,p.y,by have:=p.on;unfold On at *;grind⟩
theorem assoc_eq (F:Fld d inv) {a b n m:KK} {u v s t:KK} (hs:s≠0) (ht:t≠0) (h1:a*s=u) (h2:b*t=v) (h:u*t - v*s=0):a=b:=by
 refine F.cancel (F.mul_ne hs ht) ?_
 grind
theorem lift1 {L A B x y e:KK} (h:L*(1+d*A*x*B*y)=A*y+x*B):L*((1+e)*(1 - e)*(1+d*A*x*B*y))=(A*(1+e))*(1 - e)*y+x*(B*(1 - e))*(1+e):=by grind
theorem lift2 {L A B x y e:KK} (h:L*(1 - d*A*x*B*y)=B*y+A*x):L*((1+e)*(1 - e)*(1 - d*A*x*B*y))=(B*(1 - e))*(1+e)*y+(A*(1+e))*(1 - e)*x:=by grind
theorem lift3 {L A B x y e:KK} (h:L*(1+d*x*A*y*B)=x*B+A*y):L*((1+e)*(1 - e)*(1+d*x*A*y*B))=(A*(1+e))*(1 - e)*y+x*(B*(1 - e))*(1+e):=by grind
theorem lift4 {L A B x y e:KK} (h:L*(1 - d*x*A*y*B)=y*B+x*A):L*((1+e)*(1 - e)*(1 - d*x*A*y*B))=(B*(1 - e))*(1+e)*y+(A*(1+e))*(1 - e)*x:=by grind
set_option maxHeartbeats 1000000 in
theorem Pt.add_assoc (F:Fld d inv) (p q r:Pt d):(p.add F q).add F r=p.add F (q.add F r):=by
 have ax:=Pt.add_x F p q
 have ay:=Pt.add_y F p q
 have bx:=Pt.add_x F q r
 have b_y:=Pt.add_y F q r
 have lx:=Pt.add_x F (p.add F q) r
 have ly:=Pt.add_y F (p.add F q) r
 have rx:=Pt.add_x F p (q.add F r)
 have ry:=Pt.add_y F p (q.add F r)
 have n1:=F.plus_ne p.on q.on
 have n2:=F.minus_ne p.on q.on
 have n3:=F.plus_ne q.on r.on
 have n4:=F.minus_ne q.on r.on
 have n5:=F.plus_ne (p.add F q).on r.on
 have n6:=F.minus_ne (p.add F q).on r.on
 have n7:=F.plus_ne p.on (q.add F r).on
 have n8:=F.minus_ne p.on (q.add F r).on
 have cx:=assocX d p.x p.y q.x q.y r.x r.y
 have cy:=assocY d p.x p.y q.x q.y r.x r.y
 have e1:=p.on
 have e2:=q.on
 have e3:=r.on
 unfold On at e1 e2 e3
 rw [e1,e2,e3] at cx cy
 clear e1 e2 e3
 generalize ((p.add F q).add F r)=L at *
 generalize (p.add F (q.add F r))=R at *
 generalize (p.add F q)=A at *
 generalize (q.add F r)=B at *
 obtain ⟨x1,y1,_⟩:=p
 obtain ⟨x2,y2,_⟩:=q
 obtain ⟨x3,y3,_⟩:=r
 obtain ⟨A1,A2,_⟩:=A
 obtain ⟨B1,B2,_⟩:=B
 obtain ⟨L1,L2,_⟩:=L
 obtain ⟨R1,R2,_⟩:=R
 simp only at *
 have m12:=F.mul_ne n1 n2
 have m34:=F.mul_ne n3 n4
 apply Pt.ext' <;> simp only
 ·refine assoc_eq F (n:=0) (m:=0) (F.mul_ne m12 n5) (F.mul_ne m34 n7) rfl rfl ?_
  have k1:L1*((1+d*x1*x2*y1*y2)*(1 - d*x1*x2*y1*y2)*(1+d*A1*x3*A2*y3))=(x1*y2+x2*y1)*(1-(d*x1*x2*y1*y2))*y3+x3*(y1*y2+x1*x2)*(1+(d*x1*x2*y1*y2)):=by
   rw [←ax,←ay]
   exact lift1 lx
  have k2:R1*((1+d*x2*x3*y2*y3)*(1 - d*x2*x3*y2*y3)*(1+d*x1*B1*y1*B2))=(x3*y2+x2*y3)*(1-(d*x3*x2*y3*y2))*y1+x1*(y3*y2+x3*x2)*(1+(d*x3*x2*y3*y2)):=by
   rw [show x3*y2+x2*y3=x2*y3+x3*y2 by grind,show y3*y2+x3*x2=y2*y3+x2*x3 by grind,←bx,←b_y,show d*x3*x2*y3*y2=d*x2*x3*y2*y3 by grind]
   exact lift3 rx
  have k3:(1+d*x1*x2*y1*y2)*(1 - d*x1*x2*y1*y2)*(1+d*A1*x3*A2*y3)=((1-(d*x1*x2*y1*y2)*(d*x1*x2*y1*y2))+d*(x1*y2+x2*y1)*(y1*y2+x1*x2)*x3*y3):=by
   rw [←ax,←ay]
   generalize d*x1*x2*y1*y2=e at *
   grind
  have k4:(1+d*x2*x3*y2*y3)*(1 - d*x2*x3*y2*y3)*(1+d*x1*B1*y1*B2)=((1-(d*x3*x2*y3*y2)*(d*x3*x2*y3*y2))+d*(x3*y2+x2*y3)*(y3*y2+x3*x2)*x1*y1):=by
   rw [show x3*y2+x2*y3=x2*y3+x3*y2 by grind,show y3*y2+x3*x2=y2*y3+x2*x3 by grind,←bx,←b_y,show d*x3*x2*y3*y2=d*x2*x3*y2*y3 by grind]
   generalize d*x2*x3*y2*y3=e at *
   grind
  rw [k1,k2,k3,k4,cx,kmul_zero,kmul_zero,kmul_zero,kadd_zero,kadd_zero]
 ·refine assoc_eq F (n:=0) (m:=0) (F.mul_ne m12 n6) (F.mul_ne m34 n8) rfl rfl ?_
  have k1:L2*((1+d*x1*x2*y1*y2)*(1 - d*x1*x2*y1*y2)*(1 - d*A1*x3*A2*y3))=(y1*y2+x1*x2)*(1+(d*x1*x2*y1*y2))*y3+(x1*y2+x2*y1)*(1-(d*x1*x2*y1*y2))*x3:=by
   rw [←ax,←ay]
   exact lift2 ly
  have k2:R2*((1+d*x2*x3*y2*y3)*(1 - d*x2*x3*y2*y3)*(1 - d*x1*B1*y1*B2))=(y3*y2+x3*x2)*(1+(d*x3*x2*y3*y2))*y1+(x3*y2+x2*y3)*(1-(d*x3*x2*y3*y2))*x1:=by
   rw [show x3*y2+x2*y3=x2*y3+x3*y2 by grind,show y3*y2+x3*x2=y2*y3+x2*x3 by grind,←bx,←b_y,show d*x3*x2*y3*y2=d*x2*x3*y2*y3 by grind]
   exact lift4 ry
  have k3:(1+d*x1*x2*y1*y2)*(1 - d*x1*x2*y1*y2)*(1 - d*A1*x3*A2*y3)=((1-(d*x1*x2*y1*y2)*(d*x1*x2*y1*y2))-d*(x1*y2+x2*y1)*(y1*y2+x1*x2)*x3*y3):=by
   rw [←ax,←ay]
   generalize d*x1*x2*y1*y2=e at *
   grind
  have k4:(1+d*x2*x3*y2*y3)*(1 - d*x2*x3*y2*y3)*(1 - d*x1*B1*y1*B2)=((1-(d*x3*x2*y3*y2)*(d*x3*x2*y3*y2))-d*(x3*y2+x2*y3)*(y3*y2+x3*x2)*x1*y1):=by
   rw [show x3*y2+x2*y3=x2*y3+x3*y2 by grind,show y3*y2+x3*x2=y2*y3+x2*x3 by grind,←bx,←b_y,show d*x3*x2*y3*y2=d*x2*x3*y2*y3 by grind]
   generalize d*x2*x3*y2*y3=e at *
   grind
  rw [k1,k2,k3,k4,cy,kmul_zero,kmul_zero,kmul_zero,kadd_zero,kadd_zero]
end Go.Proofs.YtlihbglpdkeppaaGreatDoor
namespace Go.Proofs.YtlihbglpdkeppaaGreatDoor
variable {d:KK} {inv:KK→KK}
structure E4 (KK:Type) where
 x:KK
 y:KK
 z:KK
 t:KK
def Rep (P:E4 KK) (p:Pt d):Prop:=P.z≠0∧P.x=p.x*P.z∧P.y=p.y*P.z∧P.t=p.x*p.y*P.z
def quoE (x xu y yu:KK):E4 KK:=⟨x*yu,y*xu,xu*yu,x*y⟩
theorem rep_quo (F:Fld d inv) (p q:Pt d) {x xu y yu s:KK} (hs:s≠0) (hx:x=(p.x*q.y+q.x*p.y)*s) (hxu:xu=(1+d*p.x*q.x*p.y*q.y)*s) (hy:y=(p.y*q.y+p.x*q.x)*s) (hyu:yu=(1 - d*p.x*q.x*p.y*q.y)*s) :
  Rep (quoE x xu y yu) (p.add F q):=by
 have ax:=Pt.add_x F p q
 have ay:=Pt.add_y F p q
 have n1:=F.plus_ne p.on q.on
 have n2:=F.minus_ne p.on q.on
 rw [←ax] at hx
 rw [←ay] at hy
 generalize p.add F q=r at *
 clear ax ay
 generalize d*p.x*q.x*p.y*q.y=e at *
 subst hx hxu hy hyu
 refine ⟨F.mul_ne (F.mul_ne n1 hs) (F.mul_ne n2 hs),?_,?_,?_⟩ <;> simp only [quoE] <;> grind
def sumE (d:KK) (a b:E4 KK):E4 KK :=
 quoE ((a.y+a.x)*(b.y+b.x) - (a.y - a.x)*(b.y - b.x)) ((a.z*b.z+a.z*b.z)+(d*(a.t*b.t)+d*(a.t*b.t))) ((a.y+a.x)*(b.y+b.x)+(a.y - a.x)*(b.y - b.x)) ((a.z*b.z+a.z*b.z) - (d*(a.t*b.t)+d*(a.t*b.t)))
theorem rep_sum (F:Fld d inv) {a b:E4 KK} {p q:Pt d} (ha:Rep a p) (hb:Rep b q):Rep (sumE d a b) (p.add F q):=by
 obtain ⟨a1,a2,a3,a4⟩:=ha
 obtain ⟨b1,b2,b3,b4⟩:=hb
 refine rep_quo F p q (s:=2*(a.z*b.z)) (F.mul_ne F.two (F.mul_ne a1 b1)) ?_ ?_ ?_ ?_ <;> grind
def dblE (a:E4 KK):E4 KK :=
 quoE (a.x*a.y+a.x*a.y) (a.y*a.y - a.x*a.x) (a.y*a.y+a.x*a.x) ((a.z*a.z+a.z*a.z) - (a.y*a.y - a.x*a.x))
theorem rep_dbl (F:Fld d inv) {a:E4 KK} {p:Pt d} (ha:Rep a p):Rep (dblE a) (p.add F p):=by
 obtain ⟨a1,a2,a3,a4⟩:=ha
 have on:=p.on
 unfold On at on
 refine rep_quo F p p (s:=a.z*a.z) (F.mul_ne a1 a1) ?_ ?_ ?_ ?_ <;> grind
def neuE:E4 KK:=⟨0,1,1,0⟩
theorem rep_neu (F:Fld d inv):Rep (neuE:E4 KK) (Pt.zero d):=by
 refine ⟨F.one,?_,?_,?_⟩ <;> simp only [neuE,Pt.zero] <;> grind
def atE (x y:KK):E4 KK:=⟨x,y,1,x*y⟩
theorem rep_at (F:Fld d inv) (p:Pt d):Rep (atE p.x p.y) p:=by
 refine ⟨F.one,?_,?_,?_⟩ <;> simp only [atE] <;> grind
def Pt.smul (F:Fld d inv):Nat→Pt d→Pt d
 | 0,_=>Pt.zero d
 | n+1,p=>(Pt.smul F n p).add F p
theorem Pt.smul_one (F:Fld d inv) (p:Pt d):p.smul F 1=p:=Pt.zero_add F p
theorem Pt.smul_two (F:Fld d inv) (p:Pt d):p.smul F 2=p.add F p:=by
 show (p.smul F 1).add F p=_
 rw [Pt.smul_one]
theorem Pt.smul_add (F:Fld d inv) (p:Pt d) (m:Nat) : ∀ n,p.smul F (m+n)=(p.smul F m).add F (p.smul F n)
 | 0=>(Pt.add_zero F _).symm
 | n+1=>by
  show (p.smul F (m+n)).add F p=_
  rw [Pt.smul_add F p m n,Pt.add_assoc];rfl
theorem Pt.smul_mul (F:Fld d inv) (p:Pt d) (n:Nat) : ∀ m,p.smul F (m*n)=(p.smul F n).smul F m
 | 0=>by rw [Nat.zero_mul];rfl
 | m+1=>by
  rw [Nat.succ_mul,Pt.smul_add,Pt.smul_mul F p n m];rfl
theorem Pt.dbl16 (F:Fld d inv) (p:Pt d):p.smul F 16=(((p.add F p).add F (p.add F p)).add F ((p.add F p).add F (p.add F p))).add F (((p.add F p).add F (p.add F p)).add F ((p.add F p).add F (p.add F p))):=by
 have h:=Pt.smul_two F p
 have h4:p.smul F 4=(p.add F p).add F (p.add F p):=by rw [show (4:Nat)=2+2 from rfl,Pt.smul_add,h]
 have h8:p.smul F 8=((p.add F p).add F (p.add F p)).add F ((p.add F p).add F (p.add F p)):=by rw [show (8:Nat)=4+4 from rfl,Pt.smul_add,h4]
 rw [show (16:Nat)=8+8 from rfl,Pt.smul_add,h8]
end Go.Proofs.YtlihbglpdkeppaaGreatDoor
