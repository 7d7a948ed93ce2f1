import Derived.Test.YtajehiidpecknaaGreatDoorFieA
import Derived.Test.YtajehiidpecknaaGreatDoorFieS
import Derived.Test.YtajehiidpecknaaGreatDoorFieI
import Derived.Test.YtajehiidpecknaaGreatDoorMemG
set_option linter.all false
namespace Go.Proofs.YtajehiidpecknaaGreatDoor
instance:NeZero pp:=⟨by decide⟩
abbrev KK:Type:=Fin pp
def rN (d x1 y1 x2 y2 x3 y3:KK):KK:=(-d*d*x1*x2*x2*x2*x2*x3*x3*y2*y2*y2*y3)+(-d*d*x1*x2*x2*x2*x3*y2*y2*y2*y2*y3*y3)+(d*d*x2*x2*x2*x2*x3*y1*y2*y2*y2*y3*y3)+(d*d*x2*x2*x2*x3*x3*y1*y2*y2*y2*y2*y3)+(-d*x1*x2*x2*x2*x2*x3*x3*y2*y3)+(-d*x1*x2*x2*x2*x3*x3*x3*y2*y2)+(-d*x1*x2*x2*x2*x3*y2*y2)+(d*x1*x2*x2*y2*y2*y2*y3*y3*y3)
def rm (d x1 y1 x2 y2 x3 y3:KK):KK:=(-d*x1*x2*x2*y2*y2*y2*y3)+(d*x1*x2*x3*y2*y2*y2*y2*y3*y3)+(d*x2*x2*x2*x2*x3*y1*y2*y3*y3)+(d*x2*x2*x2*y1*y2*y2*y3*y3*y3)+(-d*x2*x2*x2*y1*y2*y2*y3)+(-d*x2*x2*x3*x3*x3*y1*y2*y2*y2)+(-d*x2*x2*x3*y1*y2*y2*y2)+(-d*x2*x3*x3*y1*y2*y2*y2*y2*y3)
def qO (d x1 y1 x2 y2 x3 y3:KK):KK:=(d*d*x1*x1*x2*x2*x3*x3*x3*y1*y2*y3*y3)+(-d*d*x1*x1*x2*x3*x3*y1*y2*y2*y3*y3*y3)+(-d*d*x1*x2*x2*x3*x3*y1*y1*y2*y3*y3*y3)+(d*d*x1*x2*x3*x3*x3*y1*y1*y2*y2*y3*y3)+(d*x1*x1*x1*x2*x2*x3*x3*y2*y3)+(d*x1*x1*x1*x2*x3*x3*x3*y3*y3)+(d*x1*x1*x1*x2*x3*y2*y2*y3*y3)+(d*x1*x1*x1*x3*x3*y2*y3*y3*y3)
def rM (d x1 y1 x2 y2 x3 y3:KK):KK:=(-d*x1*x1*x2*x2*x3*y1*y2*y3*y3)+(-d*x1*x1*x2*x3*x3*y1*y2*y2*y3)+(d*x1*x1*x2*x3*x3*y1*y3*y3*y3)+(d*x1*x1*x3*x3*x3*y1*y2*y3*y3)+(-d*x1*x2*x2*x3*x3*y1*y1*y2*y3)+(d*x1*x2*x2*x3*x3*y2*y3)+(-d*x1*x2*x3*x3*x3*y1*y1*y3*y3)+(d*x1*x2*x3*x3*x3*y3*y3)
def rG (d x1 y1 x2 y2 x3 y3:KK):KK:=(-d*x1*x2*x3*y1*y1*y2*y2*y3*y3)+(d*x1*x2*x3*y2*y2*y3*y3)+(-d*x1*x3*x3*y1*y1*y2*y3*y3*y3)+(d*x1*x3*x3*y2*y3*y3*y3)+(d*x2*x2*x3*y1*y1*y1*y2*y3*y3)+(-d*x2*x2*x3*y1*y2*y3*y3)+(d*x2*x3*x3*y1*y1*y1*y2*y2*y3)+(-d*x2*x3*x3*y1*y1*y1*y3*y3*y3)
def qS (d x1 y1 x2 y2 x3 y3:KK):KK:=(-d*x2*x3*x3*y1*y2*y2*y3)+(d*x2*x3*x3*y1*y3*y3*y3)+(-d*x3*x3*x3*y1*y1*y1*y2*y3*y3)+(d*x3*x3*x3*y1*y2*y3*y3)+(x1*x1*x1*x2*x3*x3*x3)+(-x1*x1*x1*x2*x3*y3*y3)+(x1*x1*x1*x2*x3)+(x1*x1*x1*x3*x3*y2*y3)
def qg (d x1 y1 x2 y2 x3 y3:KK):KK:=(-x1*x1*x1*y2*y3*y3*y3)+(x1*x1*x1*y2*y3)+(x1*x1*x2*x3*x3*y1*y3)+(-x1*x1*x2*y1*y3*y3*y3)+(x1*x1*x2*y1*y3)+(x1*x1*x3*x3*x3*y1*y2)+(-x1*x1*x3*y1*y2*y3*y3)+(x1*x1*x3*y1*y2)
def pN (d x1 y1 x2 y2 x3 y3:KK):KK:=(-x1*x2*x3*x3*x3*y1*y1)+(x1*x2*x3*x3*x3)+(x1*x2*x3*y1*y1*y3*y3)+(-x1*x2*x3*y1*y1)+(-x1*x2*x3*y3*y3)+(x1*x2*x3)+(-x1*x3*x3*y1*y1*y2*y3)+(x1*x3*x3*y2*y3)
def rz (d x1 y1 x2 y2 x3 y3:KK):KK:=(x1*y1*y1*y2*y3*y3*y3)+(-x1*y1*y1*y2*y3)+(-x1*y2*y3*y3*y3)+(x1*y2*y3)+(-x2*x3*x3*y1*y1*y1*y3)+(x2*x3*x3*y1*y3)+(x2*y1*y1*y1*y3*y3*y3)+(-x2*y1*y1*y1*y3)
def pM (d x1 y1 x2 y2 x3 y3:KK):KK:=(-x2*y1*y3*y3*y3)+(x2*y1*y3)+(-x3*x3*x3*y1*y1*y1*y2)+(x3*x3*x3*y1*y2)+(x3*y1*y1*y1*y2*y3*y3)+(-x3*y1*y1*y1*y2)+(-x3*y1*y2*y3*y3)+(x3*y1*y2)
def qY (d x1 y1 x2 y2 x3 y3:KK):KK:=(-d*x1*x1*x2*x2*x3*y1*y2)+(d*x1*x1*x2*y1*y2*y2*y3)+(d*x1*x2*x2*y1*y1*y2*y3)+(-d*x1*x2*x3*y1*y1*y2*y2)+(-x1*x1*x1*x2*x2*x2*x3)+(-x1*x1*x1*x2*x2*y2*y3)+(x1*x1*x1*x2*x3*y2*y2)+(-x1*x1*x1*x2*x3)
def qn (d x1 y1 x2 y2 x3 y3:KK):KK:=(x1*x1*x1*y2*y2*y2*y3)+(-x1*x1*x1*y2*y3)+(-x1*x1*x2*x2*x2*y1*y3)+(-x1*x1*x2*x2*x3*y1*y2)+(x1*x1*x2*y1*y2*y2*y3)+(-x1*x1*x2*y1*y3)+(x1*x1*x3*y1*y2*y2*y2)+(-x1*x1*x3*y1*y2)
def rL (d x1 y1 x2 y2 x3 y3:KK):KK:=(x1*x2*x2*x2*x3*y1*y1)+(-x1*x2*x2*x2*x3)+(x1*x2*x2*y1*y1*y2*y3)+(-x1*x2*x2*y2*y3)+(-x1*x2*x3*y1*y1*y2*y2)+(x1*x2*x3*y1*y1)+(x1*x2*x3*y2*y2)+(-x1*x2*x3)
def pZ (d x1 y1 x2 y2 x3 y3:KK):KK:=(-x1*y1*y1*y2*y2*y2*y3)+(x1*y1*y1*y2*y3)+(x1*y2*y2*y2*y3)+(-x1*y2*y3)+(x2*x2*x2*y1*y1*y1*y3)+(-x2*x2*x2*y1*y3)+(x2*x2*x3*y1*y1*y1*y2)+(-x2*x2*x3*y1*y2)
def p9 (d x1 y1 x2 y2 x3 y3:KK):KK:=(-x2*y1*y1*y1*y2*y2*y3)+(x2*y1*y1*y1*y3)+(x2*y1*y2*y2*y3)+(-x2*y1*y3)+(-x3*y1*y1*y1*y2*y2*y2)+(x3*y1*y1*y1*y2)+(x3*y1*y2*y2*y2)+(-x3*y1*y2)
set_option maxHeartbeats 2000000 in
theorem Ky (d x1 y1 x2 y2 x3 y3:KK):((x1*y2+x2*y1)*(1-(d*x1*x2*y1*y2))*y3+x3*(y1*y2+x1*x2)*(1+(d*x1*x2*y1*y2)))*((1-(d*x3*x2*y3*y2)*(d*x3*x2*y3*y2))+d*(x3*y2+x2*y3)*(y3*y2+x3*x2)*x1*y1) - ((x3*y2+x2*y3)*(1-(d*x3*x2*y3*y2))*y1+x1*(y3*y2+x3*x2)*(1+(d*x3*x2*y3*y2)))*((1-(d*x1*x2*y1*y2)*(d*x1*x2*y1*y2))+d*(x1*y2+x2*y1)*(y1*y2+x1*x2)*x3*y3)=(rN d x1 y1 x2 y2 x3 y3+rm d x1 y1 x2 y2 x3 y3)*(y1*y1 - x1*x1 - 1 - d*(x1*x1*(y1*y1)))+(qO d x1 y1 x2 y2 x3 y3+rM d x1 y1 x2 y2 x3 y3+rG d x1 y1 x2 y2 x3 y3+qS d x1 y1 x2 y2 x3 y3+qg d x1 y1 x2 y2 x3 y3+pN d x1 y1 x2 y2 x3 y3+rz d x1 y1 x2 y2 x3 y3+pM d x1 y1 x2 y2 x3 y3)*(y2*y2 - x2*x2 - 1 - d*(x2*x2*(y2*y2)))+(qY d x1 y1 x2 y2 x3 y3+qn d x1 y1 x2 y2 x3 y3+rL d x1 y1 x2 y2 x3 y3+pZ d x1 y1 x2 y2 x3 y3+p9 d x1 y1 x2 y2 x3 y3)*(y3*y3 - x3*x3 - 1 - d*(x3*x3*(y3*y3))):=by
 simp only [rN,rm,qO,rM,rG,qS,qg,pN,rz,pM,qY,qn,rL,pZ,p9]
 grind
def qk (d x1 y1 x2 y2 x3 y3:KK):KK:=(d*d*x1*x2*x2*x2*x2*x3*y2*y2*y2*y3*y3)+(d*d*x1*x2*x2*x2*x3*x3*y2*y2*y2*y2*y3)+(-d*d*x2*x2*x2*x2*x3*x3*y1*y2*y2*y2*y3)+(-d*d*x2*x2*x2*x3*y1*y2*y2*y2*y2*y3*y3)+(d*x1*x2*x2*x2*x2*x3*y2*y3*y3)+(d*x1*x2*x2*x2*y2*y2*y3*y3*y3)+(-d*x1*x2*x2*x2*y2*y2*y3)+(-d*x1*x2*x2*x3*x3*x3*y2*y2*y2)
def qQ (d x1 y1 x2 y2 x3 y3:KK):KK:=(-d*x1*x2*x2*x3*y2*y2*y2)+(-d*x1*x2*x3*x3*y2*y2*y2*y2*y3)+(-d*x2*x2*x2*x2*x3*x3*y1*y2*y3)+(-d*x2*x2*x2*x3*x3*x3*y1*y2*y2)+(-d*x2*x2*x2*x3*y1*y2*y2)+(d*x2*x2*y1*y2*y2*y2*y3*y3*y3)+(-d*x2*x2*y1*y2*y2*y2*y3)+(d*x2*x3*y1*y2*y2*y2*y2*y3*y3)
def ru (d x1 y1 x2 y2 x3 y3:KK):KK:=(d*d*x1*x1*x2*x2*x3*x3*y1*y2*y3*y3*y3)+(-d*d*x1*x1*x2*x3*x3*x3*y1*y2*y2*y3*y3)+(-d*d*x1*x2*x2*x3*x3*x3*y1*y1*y2*y3*y3)+(d*d*x1*x2*x3*x3*y1*y1*y2*y2*y3*y3*y3)+(-d*x1*x1*x1*x2*x2*x3*y2*y3*y3)+(-d*x1*x1*x1*x2*x3*x3*y2*y2*y3)+(d*x1*x1*x1*x2*x3*x3*y3*y3*y3)+(d*x1*x1*x1*x3*x3*x3*y2*y3*y3)
def rj (d x1 y1 x2 y2 x3 y3:KK):KK:=(d*x1*x1*x2*x2*x3*x3*y1*y2*y3)+(d*x1*x1*x2*x3*x3*x3*y1*y3*y3)+(d*x1*x1*x2*x3*y1*y2*y2*y3*y3)+(d*x1*x1*x3*x3*y1*y2*y3*y3*y3)+(d*x1*x2*x2*x3*y1*y1*y2*y3*y3)+(-d*x1*x2*x2*x3*y2*y3*y3)+(d*x1*x2*x3*x3*y1*y1*y2*y2*y3)+(-d*x1*x2*x3*x3*y1*y1*y3*y3*y3)
def rD (d x1 y1 x2 y2 x3 y3:KK):KK:=(-d*x1*x2*x3*x3*y2*y2*y3)+(d*x1*x2*x3*x3*y3*y3*y3)+(-d*x1*x3*x3*x3*y1*y1*y2*y3*y3)+(d*x1*x3*x3*x3*y2*y3*y3)+(-d*x2*x2*x3*x3*y1*y1*y1*y2*y3)+(d*x2*x2*x3*x3*y1*y2*y3)+(-d*x2*x3*x3*x3*y1*y1*y1*y3*y3)+(d*x2*x3*x3*x3*y1*y3*y3)
def p8 (d x1 y1 x2 y2 x3 y3:KK):KK:=(-d*x2*x3*y1*y1*y1*y2*y2*y3*y3)+(d*x2*x3*y1*y2*y2*y3*y3)+(-d*x3*x3*y1*y1*y1*y2*y3*y3*y3)+(d*x3*x3*y1*y2*y3*y3*y3)+(x1*x1*x1*x2*x3*x3*y3)+(-x1*x1*x1*x2*y3*y3*y3)+(x1*x1*x1*x2*y3)+(x1*x1*x1*x3*x3*x3*y2)
def qo (d x1 y1 x2 y2 x3 y3:KK):KK:=(-x1*x1*x1*x3*y2*y3*y3)+(x1*x1*x1*x3*y2)+(x1*x1*x2*x3*x3*x3*y1)+(-x1*x1*x2*x3*y1*y3*y3)+(x1*x1*x2*x3*y1)+(x1*x1*x3*x3*y1*y2*y3)+(-x1*x1*y1*y2*y3*y3*y3)+(x1*x1*y1*y2*y3)
def qT (d x1 y1 x2 y2 x3 y3:KK):KK:=(-x1*x2*x3*x3*y1*y1*y3)+(x1*x2*x3*x3*y3)+(x1*x2*y1*y1*y3*y3*y3)+(-x1*x2*y1*y1*y3)+(-x1*x2*y3*y3*y3)+(x1*x2*y3)+(-x1*x3*x3*x3*y1*y1*y2)+(x1*x3*x3*x3*y2)
def rJ (d x1 y1 x2 y2 x3 y3:KK):KK:=(x1*x3*y1*y1*y2*y3*y3)+(-x1*x3*y1*y1*y2)+(-x1*x3*y2*y3*y3)+(x1*x3*y2)+(-x2*x3*x3*x3*y1*y1*y1)+(x2*x3*x3*x3*y1)+(x2*x3*y1*y1*y1*y3*y3)+(-x2*x3*y1*y1*y1)
def rv (d x1 y1 x2 y2 x3 y3:KK):KK:=(-x2*x3*y1*y3*y3)+(x2*x3*y1)+(-x3*x3*y1*y1*y1*y2*y3)+(x3*x3*y1*y2*y3)+(y1*y1*y1*y2*y3*y3*y3)+(-y1*y1*y1*y2*y3)+(-y1*y2*y3*y3*y3)+(y1*y2*y3)
def pQ (d x1 y1 x2 y2 x3 y3:KK):KK:=(-d*x1*x1*x2*x2*y1*y2*y3)+(d*x1*x1*x2*x3*y1*y2*y2)+(d*x1*x2*x2*x3*y1*y1*y2)+(-d*x1*x2*y1*y1*y2*y2*y3)+(-x1*x1*x1*x2*x2*x2*y3)+(-x1*x1*x1*x2*x2*x3*y2)+(x1*x1*x1*x2*y2*y2*y3)+(-x1*x1*x1*x2*y3)
def qm (d x1 y1 x2 y2 x3 y3:KK):KK:=(x1*x1*x1*x3*y2*y2*y2)+(-x1*x1*x1*x3*y2)+(-x1*x1*x2*x2*x2*x3*y1)+(-x1*x1*x2*x2*y1*y2*y3)+(x1*x1*x2*x3*y1*y2*y2)+(-x1*x1*x2*x3*y1)+(x1*x1*y1*y2*y2*y2*y3)+(-x1*x1*y1*y2*y3)
def rC (d x1 y1 x2 y2 x3 y3:KK):KK:=(x1*x2*x2*x2*y1*y1*y3)+(-x1*x2*x2*x2*y3)+(x1*x2*x2*x3*y1*y1*y2)+(-x1*x2*x2*x3*y2)+(-x1*x2*y1*y1*y2*y2*y3)+(x1*x2*y1*y1*y3)+(x1*x2*y2*y2*y3)+(-x1*x2*y3)
def qW (d x1 y1 x2 y2 x3 y3:KK):KK:=(-x1*x3*y1*y1*y2*y2*y2)+(x1*x3*y1*y1*y2)+(x1*x3*y2*y2*y2)+(-x1*x3*y2)+(x2*x2*x2*x3*y1*y1*y1)+(-x2*x2*x2*x3*y1)+(x2*x2*y1*y1*y1*y2*y3)+(-x2*x2*y1*y2*y3)
def rq (d x1 y1 x2 y2 x3 y3:KK):KK:=(-x2*x3*y1*y1*y1*y2*y2)+(x2*x3*y1*y1*y1)+(x2*x3*y1*y2*y2)+(-x2*x3*y1)+(-y1*y1*y1*y2*y2*y2*y3)+(y1*y1*y1*y2*y3)+(y1*y2*y2*y2*y3)+(-y1*y2*y3)
set_option maxHeartbeats 2000000 in
theorem JO (d x1 y1 x2 y2 x3 y3:KK):((y1*y2+x1*x2)*(1+(d*x1*x2*y1*y2))*y3+(x1*y2+x2*y1)*(1-(d*x1*x2*y1*y2))*x3)*((1-(d*x3*x2*y3*y2)*(d*x3*x2*y3*y2))-d*(x3*y2+x2*y3)*(y3*y2+x3*x2)*x1*y1) - ((y3*y2+x3*x2)*(1+(d*x3*x2*y3*y2))*y1+(x3*y2+x2*y3)*(1-(d*x3*x2*y3*y2))*x1)*((1-(d*x1*x2*y1*y2)*(d*x1*x2*y1*y2))-d*(x1*y2+x2*y1)*(y1*y2+x1*x2)*x3*y3)=(qk d x1 y1 x2 y2 x3 y3+qQ d x1 y1 x2 y2 x3 y3)*(y1*y1 - x1*x1 - 1 - d*(x1*x1*(y1*y1)))+(ru d x1 y1 x2 y2 x3 y3+rj d x1 y1 x2 y2 x3 y3+rD d x1 y1 x2 y2 x3 y3+p8 d x1 y1 x2 y2 x3 y3+qo d x1 y1 x2 y2 x3 y3+qT d x1 y1 x2 y2 x3 y3+rJ d x1 y1 x2 y2 x3 y3+rv d x1 y1 x2 y2 x3 y3)*(y2*y2 - x2*x2 - 1 - d*(x2*x2*(y2*y2)))+(pQ d x1 y1 x2 y2 x3 y3+qm d x1 y1 x2 y2 x3 y3+rC d x1 y1 x2 y2 x3 y3+qW d x1 y1 x2 y2 x3 y3+rq d x1 y1 x2 y2 x3 y3)*(y3*y3 - x3*x3 - 1 - d*(x3*x3*(y3*y3))):=by
 simp only [qk,qQ,ru,rj,rD,p8,qo,qT,rJ,rv,pQ,qm,rC,qW,rq]
 grind
def uu (d x1 y1 x2 y2:KK):KK:=(d*d*d*x1*x1*x2*x2*x2*x2*y1*y1*y2*y2*y2*y2)+(-d*d*x1*x1*x2*x2*x2*x2*y2*y2*y2*y2)+(d*d*x2*x2*x2*x2*y1*y1*y2*y2*y2*y2)+(-d*d*x2*x2*x2*x2*y2*y2*y2*y2)+(-d*x1*x1*x2*x2*x2*x2*y2*y2)+(d*x1*x1*x2*x2*y2*y2*y2*y2)+(d*x2*x2*x2*x2*y1*y1*y2*y2)+(-2*d*x2*x2*x2*x2*y2*y2*y2*y2)
def uE (d x1 y1 x2 y2:KK):KK:=(-d*x2*x2*y1*y1*y2*y2*y2*y2)+(-2*d*x2*x2*y2*y2)+(-2*x2*x2*x2*x2*y2*y2)+(x2*x2*x2*x2)+(2*x2*x2*y2*y2*y2*y2)+(-4*x2*x2*y2*y2)+(y2*y2*y2*y2)
def vK (d x1 y1 x2 y2:KK):KK:=(d*x1*x1*x1*x1*x2*x2*y2*y2)+(2*d*x1*x1*x2*x2*y2*y2)+(d*x2*x2*y1*y1*y1*y1*y2*y2)+(-2*d*x2*x2*y1*y1*y2*y2)+(d*x2*x2*y2*y2)+(2*x1*x1*x2*x2*y2*y2)+(-x1*x1*x2*x2)+(x1*x1*y2*y2)
def uo (d x1 y1 x2 y2:KK):KK:=(-2*x2*x2*y1*y1*y2*y2)+(x2*x2*y1*y1)+(2*x2*x2*y2*y2)+(-x2*x2)+(-y1*y1*y2*y2)+(y2*y2)+(1)
theorem Lk (d x1 y1 x2 y2:KK):((y1*y2+x1*x2)*(1+(d*x1*x2*y1*y2)))*((y1*y2+x1*x2)*(1+(d*x1*x2*y1*y2))) - ((x1*y2+x2*y1)*(1-(d*x1*x2*y1*y2)))*((x1*y2+x2*y1)*(1-(d*x1*x2*y1*y2))) - (1-(d*x1*x2*y1*y2)*(d*x1*x2*y1*y2))*(1-(d*x1*x2*y1*y2)*(d*x1*x2*y1*y2)) - d*((x1*y2+x2*y1)*(x1*y2+x2*y1)*((y1*y2+x1*x2)*(y1*y2+x1*x2)))=(uu d x1 y1 x2 y2+uE d x1 y1 x2 y2)*(y1*y1 - x1*x1 - 1 - d*(x1*x1*(y1*y1)))+(vK d x1 y1 x2 y2+uo d x1 y1 x2 y2)*(y2*y2 - x2*x2 - 1 - d*(x2*x2*(y2*y2))):=by
 simp only [uu,uE,vK,uo]
 grind
end Go.Proofs.YtajehiidpecknaaGreatDoor
namespace Go.Proofs.YtajehiidpecknaaGreatDoor
theorem gV (a b c:KK):a*b*c=a*(b*c):=by grind
theorem kG (a:KK):a*1=a:=by grind
theorem Bl (a:KK):1*a=a:=by grind
theorem pP (a:KK):0*a=0:=by grind
theorem cW (a:KK):a*0=0:=by grind
theorem gq (a:KK):a+0=a:=by grind
theorem AO (a:KK):a - 0=a:=by grind
theorem zU (a:KK):a - a=0:=by grind
theorem Be (a b:KK):a+b=b+a:=by grind
structure Fld (d:KK) (inv:KK→KK):Prop where
 nz : ∀ a b:KK,a*b=0→a=0∨b=0
 one:(1:KK)≠0
 two:(2:KK)≠0
 inv : ∀ a:KK,a≠0→a*inv a=1
 root : ∃ i:KK,i*i = -1
 nsq : ∀ a b:KK,a*a=d*(b*b)→b=0
def On (d x y:KK):Prop:=y*y - x*x - 1 - d*(x*x*(y*y))=0
variable {d:KK} {inv:KK→KK}
theorem Fld.cancel (F:Fld d inv) {a b c:KK} (hc:c≠0) (h:a*c=b*c):a=b:=by
 have:(a - b)*c=0:=by grind
 rcases F.nz _ _ this with h | h
 ·grind
 ·exact absurd h hc
theorem Fld.mul_ne (F:Fld d inv) {a b:KK} (ha:a≠0) (hb:b≠0):a*b≠0:=fun h=>by
 rcases F.nz _ _ h with h | h
 ·exact ha h
 ·exact hb h
theorem Fld.den (F:Fld d inv) {x1 y1 x2 y2:KK} (h1:On d x1 y1) (h2:On d x2 y2) (e:KK) (he:e*e=1):d*x1*x2*y1*y2≠e:=by
 intro hd
 obtain ⟨i,hi⟩:=F.root
 unfold On at h1 h2
 have k1:(i*x1+e*y1)*(i*x1+e*y1)=d*((x1*y1*(i*x2+y2))*(x1*y1*(i*x2+y2))):=by grind
 have k2:(i*x1 - e*y1)*(i*x1 - e*y1)=d*((x1*y1*(i*x2 - y2))*(x1*y1*(i*x2 - y2))):=by grind
 have b1:=F.nsq _ _ k1
 have b2:=F.nsq _ _ k2
 have b3:(x1*y1)*(2*y2)=0:=by grind
 rcases F.nz _ _ b3 with h | h
 ·apply F.one;grind
 ·rcases F.nz _ _ h with h | h
  ·exact F.two h
  ·apply F.one;grind
theorem Fld.plus_ne (F:Fld d inv) {x1 y1 x2 y2:KK} (h1:On d x1 y1) (h2:On d x2 y2):1+d*x1*x2*y1*y2≠0:=fun h =>
 F.den h1 h2 (-1) (by grind) (by grind)
theorem Fld.minus_ne (F:Fld d inv) {x1 y1 x2 y2:KK} (h1:On d x1 y1) (h2:On d x2 y2):1 - d*x1*x2*y1*y2≠0:=fun h =>
 F.den h1 h2 1 (by grind) (by grind)
structure Pt (d:KK) where
 x:KK
 y:KK
 on:On d x y
theorem Pt.ext' {p q:Pt d} (hx:p.x=q.x) (hy:p.y=q.y):p=q:=by
 cases p;cases q;simp only at hx hy;subst hx;subst hy;rfl
theorem KC (F:Fld d inv) {x1 y1 x2 y2 X Y:KK} (h1:On d x1 y1) (h2:On d x2 y2) (hX:X*(1+d*x1*x2*y1*y2)=x1*y2+x2*y1) (hY:Y*(1 - d*x1*x2*y1*y2)=y1*y2+x1*x2):On d X Y:=by
 have n1:=F.plus_ne h1 h2
 have n2:=F.minus_ne h1 h2
 have c:=Lk d x1 y1 x2 y2
 unfold On at h1 h2 ⊢
 rw [h1,h2] at c
 have m:=F.mul_ne (F.mul_ne n1 n2) (F.mul_ne n1 n2)
 rw [←hX,←hY] at c
 refine F.cancel m ?_
 clear hX hY h1 h2 n1 n2 m
 generalize d*x1*x2*y1*y2=e at *
 rw [cW,cW,gq] at c
 rw [pP,←c]
 clear c
 grind
def Pt.add (F:Fld d inv) (p q:Pt d):Pt d :=
 ⟨(p.x*q.y+q.x*p.y)*inv (1+d*p.x*q.x*p.y*q.y),(p.y*q.y+p.x*q.x)*inv (1 - d*p.x*q.x*p.y*q.y),
  KC F p.on q.on (by have:=F.inv _ (F.plus_ne p.on q.on);grind) (by have:=F.inv _ (F.minus_ne p.on q.on);grind)⟩
theorem Pt.add_x (F:Fld d inv) (p q:Pt d):(p.add F q).x*(1+d*p.x*q.x*p.y*q.y)=p.x*q.y+q.x*p.y:=by
 have:=F.inv _ (F.plus_ne p.on q.on)
 show (p.x*q.y+q.x*p.y)*inv (1+d*p.x*q.x*p.y*q.y)*_=_
 grind
theorem Pt.add_y (F:Fld d inv) (p q:Pt d):(p.add F q).y*(1 - d*p.x*q.x*p.y*q.y)=p.y*q.y+p.x*q.x:=by
 have:=F.inv _ (F.minus_ne p.on q.on)
 show (p.y*q.y+p.x*q.x)*inv (1 - d*p.x*q.x*p.y*q.y)*_=_
 grind
theorem Pt.add_unique (F:Fld d inv) (p q r:Pt d) (hx:r.x*(1+d*p.x*q.x*p.y*q.y)=p.x*q.y+q.x*p.y) (hy:r.y*(1 - d*p.x*q.x*p.y*q.y)=p.y*q.y+p.x*q.x):r=p.add F q :=
 Pt.ext' (F.cancel (F.plus_ne p.on q.on) (hx.trans (Pt.add_x F p q).symm)) (F.cancel (F.minus_ne p.on q.on) (hy.trans (Pt.add_y F p q).symm))
theorem Pt.add_comm (F:Fld d inv) (p q:Pt d):p.add F q=q.add F p :=
 Pt.add_unique F q p _ (by have:=Pt.add_x F p q;grind) (by have:=Pt.add_y F p q;grind)
theorem Ff (d:KK):On d 0 1:=by
 unfold On
 simp only [Bl,pP,cW,AO,zU]
def Pt.zero (d:KK):Pt d:=⟨0,1,Ff d⟩
theorem Pt.add_zero (F:Fld d inv) (p:Pt d):p.add F (Pt.zero d)=p :=
 (Pt.add_unique F p (Pt.zero d) p (by simp only [Pt.zero];grind) (by simp only [Pt.zero];grind)).symm
theorem Pt.zero_add (F:Fld d inv) (p:Pt d):(Pt.zero d).add F p=p:=by rw [Pt.add_comm,Pt.add_zero]
def Pt.neg (p:Pt d):Pt d:=⟨-p.x,p.y,by have:=p.on;unfold On at *;grind⟩
theorem uy (F:Fld d inv) {a b n m:KK} {u v s t:KK} (hs:s≠0) (ht:t≠0) (h1:a*s=u) (h2:b*t=v) (h:u*t - v*s=0):a=b:=by
 refine F.cancel (F.mul_ne hs ht) ?_
 grind
theorem Mq {L A B x y e:KK} (h:L*(1+d*A*x*B*y)=A*y+x*B):L*((1+e)*(1 - e)*(1+d*A*x*B*y))=(A*(1+e))*(1 - e)*y+x*(B*(1 - e))*(1+e):=by grind
theorem NS {L A B x y e:KK} (h:L*(1 - d*A*x*B*y)=B*y+A*x):L*((1+e)*(1 - e)*(1 - d*A*x*B*y))=(B*(1 - e))*(1+e)*y+(A*(1+e))*(1 - e)*x:=by grind
theorem NX {L A B x y e:KK} (h:L*(1+d*x*A*y*B)=x*B+A*y):L*((1+e)*(1 - e)*(1+d*x*A*y*B))=(A*(1+e))*(1 - e)*y+x*(B*(1 - e))*(1+e):=by grind
theorem Mn {L A B x y e:KK} (h:L*(1 - d*x*A*y*B)=y*B+x*A):L*((1+e)*(1 - e)*(1 - d*x*A*y*B))=(B*(1 - e))*(1+e)*y+(A*(1+e))*(1 - e)*x:=by grind
set_option maxHeartbeats 1000000 in
theorem Pt.add_assoc (F:Fld d inv) (p q r:Pt d):(p.add F q).add F r=p.add F (q.add F r):=by
 have ax:=Pt.add_x F p q
 have ay:=Pt.add_y F p q
 have bx:=Pt.add_x F q r
 have b_y:=Pt.add_y F q r
 have lx:=Pt.add_x F (p.add F q) r
 have ly:=Pt.add_y F (p.add F q) r
 have rx:=Pt.add_x F p (q.add F r)
 have ry:=Pt.add_y F p (q.add F r)
 have n1:=F.plus_ne p.on q.on
 have n2:=F.minus_ne p.on q.on
 have n3:=F.plus_ne q.on r.on
 have n4:=F.minus_ne q.on r.on
 have n5:=F.plus_ne (p.add F q).on r.on
 have n6:=F.minus_ne (p.add F q).on r.on
 have n7:=F.plus_ne p.on (q.add F r).on
 have n8:=F.minus_ne p.on (q.add F r).on
 have cx:=Ky d p.x p.y q.x q.y r.x r.y
 have cy:=JO d p.x p.y q.x q.y r.x r.y
 have e1:=p.on
 have e2:=q.on
 have e3:=r.on
 unfold On at e1 e2 e3
 rw [e1,e2,e3] at cx cy
 clear e1 e2 e3
 generalize ((p.add F q).add F r)=L at *
 generalize (p.add F (q.add F r))=R at *
 generalize (p.add F q)=A at *
 generalize (q.add F r)=B at *
 obtain ⟨x1,y1,_⟩:=p
 obtain ⟨x2,y2,_⟩:=q
 obtain ⟨x3,y3,_⟩:=r
 obtain ⟨A1,A2,_⟩:=A
 obtain ⟨B1,B2,_⟩:=B
 obtain ⟨L1,L2,_⟩:=L
 obtain ⟨R1,R2,_⟩:=R
 simp only at *
 have m12:=F.mul_ne n1 n2
 have m34:=F.mul_ne n3 n4
 apply Pt.ext' <;> simp only
 ·refine uy F (n:=0) (m:=0) (F.mul_ne m12 n5) (F.mul_ne m34 n7) rfl rfl ?_
  have k1:L1*((1+d*x1*x2*y1*y2)*(1 - d*x1*x2*y1*y2)*(1+d*A1*x3*A2*y3))=(x1*y2+x2*y1)*(1-(d*x1*x2*y1*y2))*y3+x3*(y1*y2+x1*x2)*(1+(d*x1*x2*y1*y2)):=by
   rw [←ax,←ay]
   exact Mq lx
  have k2:R1*((1+d*x2*x3*y2*y3)*(1 - d*x2*x3*y2*y3)*(1+d*x1*B1*y1*B2))=(x3*y2+x2*y3)*(1-(d*x3*x2*y3*y2))*y1+x1*(y3*y2+x3*x2)*(1+(d*x3*x2*y3*y2)):=by
   rw [show x3*y2+x2*y3=x2*y3+x3*y2 by grind,show y3*y2+x3*x2=y2*y3+x2*x3 by grind,←bx,←b_y,show d*x3*x2*y3*y2=d*x2*x3*y2*y3 by grind]
   exact NX rx
  have k3:(1+d*x1*x2*y1*y2)*(1 - d*x1*x2*y1*y2)*(1+d*A1*x3*A2*y3)=((1-(d*x1*x2*y1*y2)*(d*x1*x2*y1*y2))+d*(x1*y2+x2*y1)*(y1*y2+x1*x2)*x3*y3):=by
   rw [←ax,←ay]
   generalize d*x1*x2*y1*y2=e at *
   grind
  have k4:(1+d*x2*x3*y2*y3)*(1 - d*x2*x3*y2*y3)*(1+d*x1*B1*y1*B2)=((1-(d*x3*x2*y3*y2)*(d*x3*x2*y3*y2))+d*(x3*y2+x2*y3)*(y3*y2+x3*x2)*x1*y1):=by
   rw [show x3*y2+x2*y3=x2*y3+x3*y2 by grind,show y3*y2+x3*x2=y2*y3+x2*x3 by grind,←bx,←b_y,show d*x3*x2*y3*y2=d*x2*x3*y2*y3 by grind]
   generalize d*x2*x3*y2*y3=e at *
   grind
  rw [k1,k2,k3,k4,cx,cW,cW,cW,gq,gq]
 ·refine uy F (n:=0) (m:=0) (F.mul_ne m12 n6) (F.mul_ne m34 n8) rfl rfl ?_
  have k1:L2*((1+d*x1*x2*y1*y2)*(1 - d*x1*x2*y1*y2)*(1 - d*A1*x3*A2*y3))=(y1*y2+x1*x2)*(1+(d*x1*x2*y1*y2))*y3+(x1*y2+x2*y1)*(1-(d*x1*x2*y1*y2))*x3:=by
   rw [←ax,←ay]
   exact NS ly
  have k2:R2*((1+d*x2*x3*y2*y3)*(1 - d*x2*x3*y2*y3)*(1 - d*x1*B1*y1*B2))=(y3*y2+x3*x2)*(1+(d*x3*x2*y3*y2))*y1+(x3*y2+x2*y3)*(1-(d*x3*x2*y3*y2))*x1:=by
   rw [show x3*y2+x2*y3=x2*y3+x3*y2 by grind,show y3*y2+x3*x2=y2*y3+x2*x3 by grind,←bx,←b_y,show d*x3*x2*y3*y2=d*x2*x3*y2*y3 by grind]
   exact Mn ry
  have k3:(1+d*x1*x2*y1*y2)*(1 - d*x1*x2*y1*y2)*(1 - d*A1*x3*A2*y3)=((1-(d*x1*x2*y1*y2)*(d*x1*x2*y1*y2))-d*(x1*y2+x2*y1)*(y1*y2+x1*x2)*x3*y3):=by
   rw [←ax,←ay]
   generalize d*x1*x2*y1*y2=e at *
   grind
  have k4:(1+d*x2*x3*y2*y3)*(1 - d*x2*x3*y2*y3)*(1 - d*x1*B1*y1*B2)=((1-(d*x3*x2*y3*y2)*(d*x3*x2*y3*y2))-d*(x3*y2+x2*y3)*(y3*y2+x3*x2)*x1*y1):=by
   rw [show x3*y2+x2*y3=x2*y3+x3*y2 by grind,show y3*y2+x3*x2=y2*y3+x2*x3 by grind,←bx,←b_y,show d*x3*x2*y3*y2=d*x2*x3*y2*y3 by grind]
   generalize d*x2*x3*y2*y3=e at *
   grind
  rw [k1,k2,k3,k4,cy,cW,cW,cW,gq,gq]
end Go.Proofs.YtajehiidpecknaaGreatDoor
namespace Go.Proofs.YtajehiidpecknaaGreatDoor
variable {d:KK} {inv:KK→KK}
structure E4 (KK:Type) where
 x:KK
 y:KK
 z:KK
 t:KK
def Rep (P:E4 KK) (p:Pt d):Prop:=P.z≠0∧P.x=p.x*P.z∧P.y=p.y*P.z∧P.t=p.x*p.y*P.z
def wO (x xu y yu:KK):E4 KK:=⟨x*yu,y*xu,xu*yu,x*y⟩
theorem za (F:Fld d inv) (p q:Pt d) {x xu y yu s:KK} (hs:s≠0) (hx:x=(p.x*q.y+q.x*p.y)*s) (hxu:xu=(1+d*p.x*q.x*p.y*q.y)*s) (hy:y=(p.y*q.y+p.x*q.x)*s) (hyu:yu=(1 - d*p.x*q.x*p.y*q.y)*s) :
  Rep (wO x xu y yu) (p.add F q):=by
 have ax:=Pt.add_x F p q
 have ay:=Pt.add_y F p q
 have n1:=F.plus_ne p.on q.on
 have n2:=F.minus_ne p.on q.on
 rw [←ax] at hx
 rw [←ay] at hy
 generalize p.add F q=r at *
 clear ax ay
 generalize d*p.x*q.x*p.y*q.y=e at *
 subst hx hxu hy hyu
 refine ⟨F.mul_ne (F.mul_ne n1 hs) (F.mul_ne n2 hs),?_,?_,?_⟩ <;> simp only [wO] <;> grind
def An (d:KK) (a b:E4 KK):E4 KK :=
 wO ((a.y+a.x)*(b.y+b.x) - (a.y - a.x)*(b.y - b.x)) ((a.z*b.z+a.z*b.z)+(d*(a.t*b.t)+d*(a.t*b.t))) ((a.y+a.x)*(b.y+b.x)+(a.y - a.x)*(b.y - b.x)) ((a.z*b.z+a.z*b.z) - (d*(a.t*b.t)+d*(a.t*b.t)))
theorem nn (F:Fld d inv) {a b:E4 KK} {p q:Pt d} (ha:Rep a p) (hb:Rep b q):Rep (An d a b) (p.add F q):=by
 obtain ⟨a1,a2,a3,a4⟩:=ha
 obtain ⟨b1,b2,b3,b4⟩:=hb
 refine za F p q (s:=2*(a.z*b.z)) (F.mul_ne F.two (F.mul_ne a1 b1)) ?_ ?_ ?_ ?_ <;> grind
def JP (a:E4 KK):E4 KK :=
 wO (a.x*a.y+a.x*a.y) (a.y*a.y - a.x*a.x) (a.y*a.y+a.x*a.x) ((a.z*a.z+a.z*a.z) - (a.y*a.y - a.x*a.x))
theorem gR (F:Fld d inv) {a:E4 KK} {p:Pt d} (ha:Rep a p):Rep (JP a) (p.add F p):=by
 obtain ⟨a1,a2,a3,a4⟩:=ha
 have on:=p.on
 unfold On at on
 refine za F p p (s:=a.z*a.z) (F.mul_ne a1 a1) ?_ ?_ ?_ ?_ <;> grind
def AY (a:E4 KK):E4 KK:=⟨0 - a.x,a.y,a.z,0 - a.t⟩
theorem zk {a:E4 KK} {p:Pt d} (ha:Rep a p):Rep (AY a) p.neg:=by
 obtain ⟨a1,a2,a3,a4⟩:=ha
 refine ⟨a1,?_,?_,?_⟩ <;> simp only [AY,Pt.neg] <;> grind
def FO:E4 KK:=⟨0,1,1,0⟩
theorem yE (F:Fld d inv):Rep (FO:E4 KK) (Pt.zero d):=by
 refine ⟨F.one,?_,?_,?_⟩ <;> simp only [FO,Pt.zero] <;> grind
def atE (x y:KK):E4 KK:=⟨x,y,1,x*y⟩
theorem vW (F:Fld d inv) (p:Pt d):Rep (atE p.x p.y) p:=by
 refine ⟨F.one,?_,?_,?_⟩ <;> simp only [atE] <;> grind
def Pt.smul (F:Fld d inv):Nat→Pt d→Pt d
 | 0,_=>Pt.zero d
 | n+1,p=>(Pt.smul F n p).add F p
theorem Pt.smul_one (F:Fld d inv) (p:Pt d):p.smul F 1=p:=Pt.zero_add F p
theorem Pt.smul_two (F:Fld d inv) (p:Pt d):p.smul F 2=p.add F p:=by
 show (p.smul F 1).add F p=_
 rw [Pt.smul_one]
theorem Pt.smul_add (F:Fld d inv) (p:Pt d) (m:Nat) : ∀ n,p.smul F (m+n)=(p.smul F m).add F (p.smul F n)
 | 0=>(Pt.add_zero F _).symm
 | n+1=>by
  show (p.smul F (m+n)).add F p=_
  rw [Pt.smul_add F p m n,Pt.add_assoc];rfl
theorem Pt.smul_mul (F:Fld d inv) (p:Pt d) (n:Nat) : ∀ m,p.smul F (m*n)=(p.smul F n).smul F m
 | 0=>by rw [Nat.zero_mul];rfl
 | m+1=>by
  rw [Nat.succ_mul,Pt.smul_add,Pt.smul_mul F p n m];rfl
theorem Pt.dbl16 (F:Fld d inv) (p:Pt d):p.smul F 16=(((p.add F p).add F (p.add F p)).add F ((p.add F p).add F (p.add F p))).add F (((p.add F p).add F (p.add F p)).add F ((p.add F p).add F (p.add F p))):=by
 have h:=Pt.smul_two F p
 have h4:p.smul F 4=(p.add F p).add F (p.add F p):=by rw [show (4:Nat)=2+2 from rfl,Pt.smul_add,h]
 have h8:p.smul F 8=((p.add F p).add F (p.add F p)).add F ((p.add F p).add F (p.add F p)):=by rw [show (8:Nat)=4+4 from rfl,Pt.smul_add,h4]
 rw [show (16:Nat)=8+8 from rfl,Pt.smul_add,h8]
theorem Pt.dbl8 (F:Fld d inv) (p:Pt d):p.smul F 8=((p.add F p).add F (p.add F p)).add F ((p.add F p).add F (p.add F p)):=by
 have h:=Pt.smul_two F p
 have h4:p.smul F 4=(p.add F p).add F (p.add F p):=by rw [show (4:Nat)=2+2 from rfl,Pt.smul_add,h]
 rw [show (8:Nat)=4+4 from rfl,Pt.smul_add,h4]
theorem Rep.unique (F:Fld d inv) {a:E4 KK} {p q:Pt d} (hp:Rep a p) (hq:Rep a q):p=q:=by
 obtain ⟨a1,a2,a3,a4⟩:=hp
 obtain ⟨b1,b2,b3,b4⟩:=hq
 exact Pt.ext' (F.cancel a1 (a2.symm.trans b2)) (F.cancel a1 (a3.symm.trans b3))
end Go.Proofs.YtajehiidpecknaaGreatDoor
namespace Go.Proofs.YtajehiidpecknaaGreatDoor
def cK (n:Nat):KK:=Fin.ofNat pp n
theorem eG (n:Nat):(cK n).val=n % pp:=rfl
theorem gA {a b:Nat} : cK a=cK b↔a % pp=b % pp:=by
 constructor
 ·intro h;have:=congrArg Fin.val h;exact this
 ·intro h;exact Fin.ext h
theorem oz (a:Nat):cK (a % pp)=cK a:=gA.2 (Nat.mod_mod _ _)
theorem vu (k:KK):cK k.val=k:=Fin.ext (YK k.isLt)
theorem CK (a b:Nat):cK ((a+b) % pp)=cK a+cK b:=Fin.ext (by
 rw [Fin.val_add,eG,eG,eG,Nat.mod_mod,←Nat.add_mod])
theorem fj (a b:Nat):cK (a*b % pp)=cK a*cK b:=Fin.ext (by
 rw [Fin.val_mul,eG,eG,eG,Nat.mod_mod,←Nat.mul_mod])
theorem Ek (a b:Nat):cK ((a+(pp - b % pp)) % pp)=cK a - cK b:=Fin.ext (by
 rw [Fin.sub_def,eG]
 show _=(pp - b % pp+a % pp) % pp
 rw [Nat.mod_mod,Nat.add_comm a,Nat.add_mod_mod])
theorem km:cK 0=0:=rfl
theorem nx:cK 1=1:=rfl
theorem ie {a:Nat} : cK a=0↔a % pp=0:=by
 rw [←km,gA,Nat.zero_mod]
def my (k:KK):KK:=cK (k.val ^ (pp - 2) % pp)
theorem zv (a:Nat):my (cK a)=cK (a ^ (pp - 2) % pp):=by
 unfold my
 rw [eG,gA,Nat.mod_mod,Nat.mod_mod,←Nat.pow_mod]
def DN:Nat:=37095705934669439343138083508754565189542113879843219016388785533085940283555
def DK:KK:=cK DN
theorem IA:DN ^ ((pp - 1)/2) % pp=pp - 1:=by
 rw [←yp pp 256 DN ((pp - 1)/2) (by decide)]
 decide +kernel
theorem P6 (a b:Nat) (h:a*a % pp=DN*(b*b) % pp):b % pp=0:=by
 apply Classical.byContradiction
 intro hb
 have hd : ¬ pp ∣ b:=fun e=>hb (Nat.mod_eq_zero_of_dvd e)
 have f:=prm.fermat hd
 have hp:(a*a) ^ ((pp - 1)/2) % pp=(DN*(b*b)) ^ ((pp - 1)/2) % pp:=by
  rw [Nat.pow_mod,h,←Nat.pow_mod]
 have e2 : ∀ x:Nat,(x*x) ^ ((pp - 1)/2)=x ^ (pp - 1):=fun x=>by
  rw [←Nat.pow_two,←Nat.pow_mul,show 2*((pp - 1)/2)=pp - 1 by decide]
 rw [e2,Nat.mul_pow,e2,Nat.mul_mod,IA,f,Nat.mul_one] at hp
 by_cases ha:a % pp=0
 ·obtain ⟨k,hk⟩ : ∃ k,pp - 1=k+1:=⟨pp - 2,by decide⟩
  have:a ^ (pp - 1) % pp=0:=by rw [hk,Nat.pow_succ,Nat.mul_mod,ha,Nat.mul_zero,Nat.zero_mod]
  rw [this] at hp
  exact absurd hp (by decide)
 ·have hda : ¬ pp ∣ a:=fun e=>ha (Nat.mod_eq_zero_of_dvd e)
  rw [prm.fermat hda] at hp
  exact absurd hp (by decide)
def JN:Nat:=19681161376707505956807079304988542015446066515923890162744021073123829784752
theorem NG:JN*JN % pp=pp - 1:=by decide
theorem FK:Fld DK my where
 nz a b h:=by
  have h':a.val*b.val % pp=0:=by
   have:=congrArg Fin.val h
   rw [Fin.val_mul] at this
   exact this
  rcases prm.euclid (Nat.dvd_of_mod_eq_zero h') with e | e
  ·left;exact Fin.ext (by have:=Nat.eq_zero_of_dvd_of_lt e a.isLt;exact this)
  ·right;exact Fin.ext (by have:=Nat.eq_zero_of_dvd_of_lt e b.isLt;exact this)
 one:=by decide
 two:=by decide
 inv a h:=by
  have ha : ¬ a.val % pp=0:=fun e=>h (by rw [←vu a];exact ie.2 e)
  have:=inv_one a.val ha
  unfold my
  refine Fin.ext ?_
  rw [Fin.val_mul,eG,Nat.mod_mod,this]
  rfl
 root:=⟨cK JN,by
  rw [←fj,NG]
  decide⟩
 nsq a b h:=by
  have h':a.val*a.val % pp=DN*(b.val*b.val) % pp:=by
   have e:cK (a.val*a.val)=cK (DN*(b.val*b.val)):=by
    have e1:=fj a.val a.val
    have e2:=fj DN (b.val*b.val % pp)
    have e3:=fj b.val b.val
    rw [oz,vu] at e1
    rw [e3,oz,vu] at e2
    rw [e1,h]
    show DK*(b*b)=_
    rw [show DK=cK DN from rfl,←e2,gA,Nat.mul_mod_mod]
   exact gA.1 e
  have:=P6 a.val b.val h'
  rw [←vu b];exact ie.2 this
end Go.Proofs.YtajehiidpecknaaGreatDoor
namespace Go.Proofs.YtajehiidpecknaaGreatDoor
open Go Go.RowKit
def bsum:List Value→Nat
 | []=>0
 | .int _ x :: l=>x.toNat+256*bsum l
 | _ :: l=>256*bsum l
def ai:Value→Nat
 | .agg cs=>bsum cs.toList
 | _=>0
def IsB (A:Value):Prop:=A=bv (ai A)
theorem fb (n:Nat) : ∀ (m o:Nat),bsum ((List.range' o m).map fun i=>Value.int .u8 (by8 n i))=n/256 ^ o % 256 ^ m
 | 0,o=>by simp [bsum,Nat.mod_one]
 | m+1,o=>by
  rw [List.range'_succ,List.map_cons,bsum,fb n m (o+1)]
  simp only [by8,Int.toNat_natCast]
  rw [Nat.pow_succ 256 o,←YL,Nat.pow_succ 256 m,Nat.mul_comm (256 ^ m) 256,Nat.mod_mul]
theorem iy:RN=256 ^ 32:=by decide
theorem cX (n:Nat):bsum (bl n)=n % RN:=by
 rw [iy];unfold bl;rw [List.range_eq_range',fb,Nat.pow_zero,Nat.div_one]
theorem kv (n m i:Nat) (h:i<m):by8 (n % 256 ^ m) i=by8 n i:=by
 unfold by8
 congr 1
 have:256 ^ m=256 ^ i*(256*256 ^ (m - i - 1)):=by rw [←Nat.pow_succ',←Nat.pow_add];congr 1;omega
 rw [this,Nat.mod_mul_right_div_self,Nat.mod_mul_right_mod]
theorem J7 (n:Nat):bl (n % RN)=bl n:=by
 rw [iy];unfold bl
 exact List.map_congr_left fun i hi=>by rw [kv n 32 i (by simpa using hi)]
theorem fP (n:Nat):ai (bv n)=n % RN:=cX n
theorem xF (n:Nat):bv (n % RN)=bv n:=by unfold bv br;rw [J7]
theorem aJ (n:Nat):IsB (bv n):=by unfold IsB;rw [fP,xF]
theorem aT {A:Value} (h:IsB A):ai A<RN:=by
 have:ai A=ai A % RN:=by
  have e:=congrArg ai h
  rw [fP] at e;exact e
 rw [this];exact Nat.mod_lt _ (by decide)
theorem ao {n:Nat} (h:n<RN):ai (bv n)=n:=by rw [fP,YK h]
theorem m6 (n:Nat):(bl n).all flat1=true:=by simp [bl,flat1]
theorem aB (n:Nat):flat (bv n)=true:=by
 show ((bl n).toArray.toList.all flat1)=true
 rw [YN];exact m6 n
def fad (a b:Nat):Nat:=(a+b) % pp
def fsb (a b:Nat):Nat:=(a+(pp - b % pp)) % pp
def fml (a b:Nat):Nat:=a*b % pp
def fiv (a:Nat):Nat:=a ^ (pp - 2) % pp
theorem Kh (a b:Nat):fad a b<pp:=Nat.mod_lt _ (by decide)
theorem rZ (a b:Nat):fsb a b<pp:=Nat.mod_lt _ (by decide)
theorem ff (a b:Nat):fml a b<pp:=Nat.mod_lt _ (by decide)
theorem J3 (a:Nat):fiv a<pp:=Nat.mod_lt _ (by decide)
theorem iL {a:Nat} (h:a<pp):a<RN:=Nat.lt_trans h mh
def AD (A B:Value):Value:=bv (fad (ai A) (ai B))
def SB (A B:Value):Value:=bv (fsb (ai A) (ai B))
def ML (A B:Value):Value:=bv (fml (ai A) (ai B))
def IV (A:Value):Value:=bv (fiv (ai A))
def gAdF:List Value→Option (List Prop × Value)
 | [A,B]=>some ([IsB A∧IsB B],AD A B)
 | _=>none
def Kk:List Value→Option (List Prop × Value)
 | [A,B]=>some ([IsB A∧IsB B],SB A B)
 | _=>none
def JM:List Value→Option (List Prop × Value)
 | [A,B]=>some ([IsB A∧IsB B],ML A B)
 | _=>none
def gIvF:List Value→Option (List Prop × Value)
 | [A]=>some ([IsB A],IV A)
 | _=>none
def KL:List Value→Option (List Prop × Value)
 | [A]=>some ([IsB A],.bool (decide (ai A<pp)))
 | _=>none
structure P4 where
 x:Nat
 y:Nat
 z:Nat
 t:Nat
def pcs (p:P4):List Value:=bl p.x ++ (bl p.y ++ (bl p.z ++ bl p.t))
def pv (p:P4):Value := .agg (pcs p).toArray
def p4:Value→P4
 | .agg cs=>⟨bsum (cs.toList.take 32),bsum ((cs.toList.drop 32).take 32),bsum ((cs.toList.drop 64).take 32),bsum ((cs.toList.drop 96).take 32)⟩
 | _=>⟨0,0,0,0⟩
structure P4.ok (p:P4):Prop where
 x:p.x<RN
 y:p.y<RN
 z:p.z<RN
 t:p.t<RN
theorem tJ (n:Nat) (l:List Value):(bl n ++ l).take 32=bl n:=List.take_left' (bY n)
theorem so (n:Nat) (l:List Value):(bl n ++ l).drop 32=l:=List.drop_left' (bY n)
theorem c9 {p:P4} (h:p.ok):p4 (pv p)=p:=by
 obtain ⟨x,y,z,t⟩:=p
 obtain ⟨h1,h2,h3,h4⟩:=h
 simp only at h1 h2 h3 h4
 have e:p4 (pv ⟨x,y,z,t⟩)=⟨bsum ((pcs ⟨x,y,z,t⟩).take 32),bsum (((pcs ⟨x,y,z,t⟩).drop 32).take 32),bsum (((pcs ⟨x,y,z,t⟩).drop 64).take 32),bsum (((pcs ⟨x,y,z,t⟩).drop 96).take 32)⟩:=rfl
 rw [e]
 unfold pcs
 simp only
 have d64 : ∀ l:List Value,l.drop 64=(l.drop 32).drop 32:=fun l=>by rw [List.drop_drop]
 have d96 : ∀ l:List Value,l.drop 96=((l.drop 32).drop 32).drop 32:=fun l=>by rw [List.drop_drop,List.drop_drop]
 rw [d64,d96,tJ,so,tJ,so,tJ,so,List.take_of_length_le (by rw [bY];omega)]
 rw [cX,cX,cX,cX,YK h1,YK h2,YK h3,YK h4]
def IsP (A:Value):Prop:=A=pv (p4 A)∧(p4 A).ok
theorem cm {p:P4} (h:p.ok):IsP (pv p):=by unfold IsP;rw [c9 h];exact ⟨rfl,h⟩
theorem bf (p:P4):flat (pv p)=true:=by
 show ((pcs p).toArray.toList.all flat1)=true
 rw [YN]
 unfold pcs
 simp only [List.all_append,m6,Bool.and_self]
abbrev DN':Nat:=37095705934669439343138083508754565189542113879843219016388785533085940283555
abbrev GX:Nat:=15112221349535400772501151409588531511454012693041857206046113283949847762202
abbrev GY:Nat:=46316835694926478169428394003475163141307993866256225615783033603165251855960
def np:Nat:=Nat.max (Nat.max 2 1) (Nat.max 5 4)+1
def M0:Mem:=(((List.replicate np none).set 2 (some ⟨bl GY,22⟩)).set 5 (some ⟨bl DN',22⟩)).set 4 (some ⟨bl 1,22⟩)
theorem aP:jy M0=true:=by kernel_rfl
def gl4:List Nat:=[2,5,4]
def M1:Mem:=M0.set 1 (some ⟨bl GX,22⟩)
theorem mB:jy M1=true:=by kernel_rfl
def gl5:List Nat:=[2,5,1,4]
def F0:Cx:=((((((Cx.none.glo gl4).pure 115 gAdF).pure 113 Kk).pure 95 JM).pure 94 gIvF).pure 110 KL)
end Go.Proofs.YtajehiidpecknaaGreatDoor
