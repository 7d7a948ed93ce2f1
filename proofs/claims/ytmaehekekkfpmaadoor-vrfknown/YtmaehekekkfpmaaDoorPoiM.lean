/- Polynomial identities of the curve: the sum is on the curve, and it is associative. -/
import Derived.Test.YtmaehekekkfpmaaDoorFieN
set_option linter.unusedSimpArgs false
set_option linter.unusedVariables false
namespace Go.Proofs.YtmaehekekkfpmaaDoor
instance:NeZero pp:=⟨by decide⟩
abbrev KK:Type:=Fin pp
def assocX0_0 (d x1 y1 x2 y2 x3 y3:KK):KK:=(-d*d*x1*x2*x2*x2*x2*x3*x3*y2*y2*y2*y3)+(-d*d*x1*x2*x2*x2*x3*y2*y2*y2*y2*y3*y3)+(d*d*x2*x2*x2*x2*x3*y1*y2*y2*y2*y3*y3)+(d*d*x2*x2*x2*x3*x3*y1*y2*y2*y2*y2*y3)+(-d*x1*x2*x2*x2*x2*x3*x3*y2*y3)+(-d*x1*x2*x2*x2*x3*x3*x3*y2*y2)+(-d*x1*x2*x2*x2*x3*y2*y2)+(d*x1*x2*x2*y2*y2*y2*y3*y3*y3)
def assocX0_1 (d x1 y1 x2 y2 x3 y3:KK):KK:=(-d*x1*x2*x2*y2*y2*y2*y3)+(d*x1*x2*x3*y2*y2*y2*y2*y3*y3)+(d*x2*x2*x2*x2*x3*y1*y2*y3*y3)+(d*x2*x2*x2*y1*y2*y2*y3*y3*y3)+(-d*x2*x2*x2*y1*y2*y2*y3)+(-d*x2*x2*x3*x3*x3*y1*y2*y2*y2)+(-d*x2*x2*x3*y1*y2*y2*y2)+(-d*x2*x3*x3*y1*y2*y2*y2*y2*y3)
def assocX1_0 (d x1 y1 x2 y2 x3 y3:KK):KK:=(d*d*x1*x1*x2*x2*x3*x3*x3*y1*y2*y3*y3)+(-d*d*x1*x1*x2*x3*x3*y1*y2*y2*y3*y3*y3)+(-d*d*x1*x2*x2*x3*x3*y1*y1*y2*y3*y3*y3)+(d*d*x1*x2*x3*x3*x3*y1*y1*y2*y2*y3*y3)+(d*x1*x1*x1*x2*x2*x3*x3*y2*y3)+(d*x1*x1*x1*x2*x3*x3*x3*y3*y3)+(d*x1*x1*x1*x2*x3*y2*y2*y3*y3)+(d*x1*x1*x1*x3*x3*y2*y3*y3*y3)
def assocX1_1 (d x1 y1 x2 y2 x3 y3:KK):KK:=(-d*x1*x1*x2*x2*x3*y1*y2*y3*y3)+(-d*x1*x1*x2*x3*x3*y1*y2*y2*y3)+(d*x1*x1*x2*x3*x3*y1*y3*y3*y3)+(d*x1*x1*x3*x3*x3*y1*y2*y3*y3)+(-d*x1*x2*x2*x3*x3*y1*y1*y2*y3)+(d*x1*x2*x2*x3*x3*y2*y3)+(-d*x1*x2*x3*x3*x3*y1*y1*y3*y3)+(d*x1*x2*x3*x3*x3*y3*y3)
def assocX1_2 (d x1 y1 x2 y2 x3 y3:KK):KK:=(-d*x1*x2*x3*y1*y1*y2*y2*y3*y3)+(d*x1*x2*x3*y2*y2*y3*y3)+(-d*x1*x3*x3*y1*y1*y2*y3*y3*y3)+(d*x1*x3*x3*y2*y3*y3*y3)+(d*x2*x2*x3*y1*y1*y1*y2*y3*y3)+(-d*x2*x2*x3*y1*y2*y3*y3)+(d*x2*x3*x3*y1*y1*y1*y2*y2*y3)+(-d*x2*x3*x3*y1*y1*y1*y3*y3*y3)
def assocX1_3 (d x1 y1 x2 y2 x3 y3:KK):KK:=(-d*x2*x3*x3*y1*y2*y2*y3)+(d*x2*x3*x3*y1*y3*y3*y3)+(-d*x3*x3*x3*y1*y1*y1*y2*y3*y3)+(d*x3*x3*x3*y1*y2*y3*y3)+(x1*x1*x1*x2*x3*x3*x3)+(-x1*x1*x1*x2*x3*y3*y3)+(x1*x1*x1*x2*x3)+(x1*x1*x1*x3*x3*y2*y3)
def assocX1_4 (d x1 y1 x2 y2 x3 y3:KK):KK:=(-x1*x1*x1*y2*y3*y3*y3)+(x1*x1*x1*y2*y3)+(x1*x1*x2*x3*x3*y1*y3)+(-x1*x1*x2*y1*y3*y3*y3)+(x1*x1*x2*y1*y3)+(x1*x1*x3*x3*x3*y1*y2)+(-x1*x1*x3*y1*y2*y3*y3)+(x1*x1*x3*y1*y2)
def assocX1_5 (d x1 y1 x2 y2 x3 y3:KK):KK:=(-x1*x2*x3*x3*x3*y1*y1)+(x1*x2*x3*x3*x3)+(x1*x2*x3*y1*y1*y3*y3)+(-x1*x2*x3*y1*y1)+(-x1*x2*x3*y3*y3)+(x1*x2*x3)+(-x1*x3*x3*y1*y1*y2*y3)+(x1*x3*x3*y2*y3)
def assocX1_6 (d x1 y1 x2 y2 x3 y3:KK):KK:=(x1*y1*y1*y2*y3*y3*y3)+(-x1*y1*y1*y2*y3)+(-x1*y2*y3*y3*y3)+(x1*y2*y3)+(-x2*x3*x3*y1*y1*y1*y3)+(x2*x3*x3*y1*y3)+(x2*y1*y1*y1*y3*y3*y3)+(-x2*y1*y1*y1*y3)
def assocX1_7 (d x1 y1 x2 y2 x3 y3:KK):KK:=(-x2*y1*y3*y3*y3)+(x2*y1*y3)+(-x3*x3*x3*y1*y1*y1*y2)+(x3*x3*x3*y1*y2)+(x3*y1*y1*y1*y2*y3*y3)+(-x3*y1*y1*y1*y2)+(-x3*y1*y2*y3*y3)+(x3*y1*y2)
def assocX2_0 (d x1 y1 x2 y2 x3 y3:KK):KK:=(-d*x1*x1*x2*x2*x3*y1*y2)+(d*x1*x1*x2*y1*y2*y2*y3)+(d*x1*x2*x2*y1*y1*y2*y3)+(-d*x1*x2*x3*y1*y1*y2*y2)+(-x1*x1*x1*x2*x2*x2*x3)+(-x1*x1*x1*x2*x2*y2*y3)+(x1*x1*x1*x2*x3*y2*y2)+(-x1*x1*x1*x2*x3)
def assocX2_1 (d x1 y1 x2 y2 x3 y3:KK):KK:=(x1*x1*x1*y2*y2*y2*y3)+(-x1*x1*x1*y2*y3)+(-x1*x1*x2*x2*x2*y1*y3)+(-x1*x1*x2*x2*x3*y1*y2)+(x1*x1*x2*y1*y2*y2*y3)+(-x1*x1*x2*y1*y3)+(x1*x1*x3*y1*y2*y2*y2)+(-x1*x1*x3*y1*y2)
def assocX2_2 (d x1 y1 x2 y2 x3 y3:KK):KK:=(x1*x2*x2*x2*x3*y1*y1)+(-x1*x2*x2*x2*x3)+(x1*x2*x2*y1*y1*y2*y3)+(-x1*x2*x2*y2*y3)+(-x1*x2*x3*y1*y1*y2*y2)+(x1*x2*x3*y1*y1)+(x1*x2*x3*y2*y2)+(-x1*x2*x3)
def assocX2_3 (d x1 y1 x2 y2 x3 y3:KK):KK:=(-x1*y1*y1*y2*y2*y2*y3)+(x1*y1*y1*y2*y3)+(x1*y2*y2*y2*y3)+(-x1*y2*y3)+(x2*x2*x2*y1*y1*y1*y3)+(-x2*x2*x2*y1*y3)+(x2*x2*x3*y1*y1*y1*y2)+(-x2*x2*x3*y1*y2)
def assocX2_4 (d x1 y1 x2 y2 x3 y3:KK):KK:=(-x2*y1*y1*y1*y2*y2*y3)+(x2*y1*y1*y1*y3)+(x2*y1*y2*y2*y3)+(-x2*y1*y3)+(-x3*y1*y1*y1*y2*y2*y2)+(x3*y1*y1*y1*y2)+(x3*y1*y2*y2*y2)+(-x3*y1*y2)
set_option maxHeartbeats 2000000 in
theorem assocX (d x1 y1 x2 y2 x3 y3:KK):((x1*y2+x2*y1)*(1-(d*x1*x2*y1*y2))*y3+x3*(y1*y2+x1*x2)*(1+(d*x1*x2*y1*y2)))*((1-(d*x3*x2*y3*y2)*(d*x3*x2*y3*y2))+d*(x3*y2+x2*y3)*(y3*y2+x3*x2)*x1*y1) - ((x3*y2+x2*y3)*(1-(d*x3*x2*y3*y2))*y1+x1*(y3*y2+x3*x2)*(1+(d*x3*x2*y3*y2)))*((1-(d*x1*x2*y1*y2)*(d*x1*x2*y1*y2))+d*(x1*y2+x2*y1)*(y1*y2+x1*x2)*x3*y3)=(assocX0_0 d x1 y1 x2 y2 x3 y3+assocX0_1 d x1 y1 x2 y2 x3 y3)*(y1*y1 - x1*x1 - 1 - d*(x1*x1*(y1*y1)))+(assocX1_0 d x1 y1 x2 y2 x3 y3+assocX1_1 d x1 y1 x2 y2 x3 y3+assocX1_2 d x1 y1 x2 y2 x3 y3+assocX1_3 d x1 y1 x2 y2 x3 y3+assocX1_4 d x1 y1 x2 y2 x3 y3+assocX1_5 d x1 y1 x2 y2 x3 y3+assocX1_6 d x1 y1 x2 y2 x3 y3+assocX1_7 d x1 y1 x2 y2 x3 y3)*(y2*y2 - x2*x2 - 1 - d*(x2*x2*(y2*y2)))+(assocX2_0 d x1 y1 x2 y2 x3 y3+assocX2_1 d x1 y1 x2 y2 x3 y3+assocX2_2 d x1 y1 x2 y2 x3 y3+assocX2_3 d x1 y1 x2 y2 x3 y3+assocX2_4 d x1 y1 x2 y2 x3 y3)*(y3*y3 - x3*x3 - 1 - d*(x3*x3*(y3*y3))):=by
 simp only [assocX0_0,assocX0_1,assocX1_0,assocX1_1,assocX1_2,assocX1_3,assocX1_4,assocX1_5,assocX1_6,assocX1_7,assocX2_0,assocX2_1,assocX2_2,assocX2_3,assocX2_4]
 grind
def assocY0_0 (d x1 y1 x2 y2 x3 y3:KK):KK:=(d*d*x1*x2*x2*x2*x2*x3*y2*y2*y2*y3*y3)+(d*d*x1*x2*x2*x2*x3*x3*y2*y2*y2*y2*y3)+(-d*d*x2*x2*x2*x2*x3*x3*y1*y2*y2*y2*y3)+(-d*d*x2*x2*x2*x3*y1*y2*y2*y2*y2*y3*y3)+(d*x1*x2*x2*x2*x2*x3*y2*y3*y3)+(d*x1*x2*x2*x2*y2*y2*y3*y3*y3)+(-d*x1*x2*x2*x2*y2*y2*y3)+(-d*x1*x2*x2*x3*x3*x3*y2*y2*y2)
def assocY0_1 (d x1 y1 x2 y2 x3 y3:KK):KK:=(-d*x1*x2*x2*x3*y2*y2*y2)+(-d*x1*x2*x3*x3*y2*y2*y2*y2*y3)+(-d*x2*x2*x2*x2*x3*x3*y1*y2*y3)+(-d*x2*x2*x2*x3*x3*x3*y1*y2*y2)+(-d*x2*x2*x2*x3*y1*y2*y2)+(d*x2*x2*y1*y2*y2*y2*y3*y3*y3)+(-d*x2*x2*y1*y2*y2*y2*y3)+(d*x2*x3*y1*y2*y2*y2*y2*y3*y3)
def assocY1_0 (d x1 y1 x2 y2 x3 y3:KK):KK:=(d*d*x1*x1*x2*x2*x3*x3*y1*y2*y3*y3*y3)+(-d*d*x1*x1*x2*x3*x3*x3*y1*y2*y2*y3*y3)+(-d*d*x1*x2*x2*x3*x3*x3*y1*y1*y2*y3*y3)+(d*d*x1*x2*x3*x3*y1*y1*y2*y2*y3*y3*y3)+(-d*x1*x1*x1*x2*x2*x3*y2*y3*y3)+(-d*x1*x1*x1*x2*x3*x3*y2*y2*y3)+(d*x1*x1*x1*x2*x3*x3*y3*y3*y3)+(d*x1*x1*x1*x3*x3*x3*y2*y3*y3)
def assocY1_1 (d x1 y1 x2 y2 x3 y3:KK):KK:=(d*x1*x1*x2*x2*x3*x3*y1*y2*y3)+(d*x1*x1*x2*x3*x3*x3*y1*y3*y3)+(d*x1*x1*x2*x3*y1*y2*y2*y3*y3)+(d*x1*x1*x3*x3*y1*y2*y3*y3*y3)+(d*x1*x2*x2*x3*y1*y1*y2*y3*y3)+(-d*x1*x2*x2*x3*y2*y3*y3)+(d*x1*x2*x3*x3*y1*y1*y2*y2*y3)+(-d*x1*x2*x3*x3*y1*y1*y3*y3*y3)
def assocY1_2 (d x1 y1 x2 y2 x3 y3:KK):KK:=(-d*x1*x2*x3*x3*y2*y2*y3)+(d*x1*x2*x3*x3*y3*y3*y3)+(-d*x1*x3*x3*x3*y1*y1*y2*y3*y3)+(d*x1*x3*x3*x3*y2*y3*y3)+(-d*x2*x2*x3*x3*y1*y1*y1*y2*y3)+(d*x2*x2*x3*x3*y1*y2*y3)+(-d*x2*x3*x3*x3*y1*y1*y1*y3*y3)+(d*x2*x3*x3*x3*y1*y3*y3)
def assocY1_3 (d x1 y1 x2 y2 x3 y3:KK):KK:=(-d*x2*x3*y1*y1*y1*y2*y2*y3*y3)+(d*x2*x3*y1*y2*y2*y3*y3)+(-d*x3*x3*y1*y1*y1*y2*y3*y3*y3)+(d*x3*x3*y1*y2*y3*y3*y3)+(x1*x1*x1*x2*x3*x3*y3)+(-x1*x1*x1*x2*y3*y3*y3)+(x1*x1*x1*x2*y3)+(x1*x1*x1*x3*x3*x3*y2)
def assocY1_4 (d x1 y1 x2 y2 x3 y3:KK):KK:=(-x1*x1*x1*x3*y2*y3*y3)+(x1*x1*x1*x3*y2)+(x1*x1*x2*x3*x3*x3*y1)+(-x1*x1*x2*x3*y1*y3*y3)+(x1*x1*x2*x3*y1)+(x1*x1*x3*x3*y1*y2*y3)+(-x1*x1*y1*y2*y3*y3*y3)+(x1*x1*y1*y2*y3)
def assocY1_5 (d x1 y1 x2 y2 x3 y3:KK):KK:=(-x1*x2*x3*x3*y1*y1*y3)+(x1*x2*x3*x3*y3)+(x1*x2*y1*y1*y3*y3*y3)+(-x1*x2*y1*y1*y3)+(-x1*x2*y3*y3*y3)+(x1*x2*y3)+(-x1*x3*x3*x3*y1*y1*y2)+(x1*x3*x3*x3*y2)
def assocY1_6 (d x1 y1 x2 y2 x3 y3:KK):KK:=(x1*x3*y1*y1*y2*y3*y3)+(-x1*x3*y1*y1*y2)+(-x1*x3*y2*y3*y3)+(x1*x3*y2)+(-x2*x3*x3*x3*y1*y1*y1)+(x2*x3*x3*x3*y1)+(x2*x3*y1*y1*y1*y3*y3)+(-x2*x3*y1*y1*y1)
def assocY1_7 (d x1 y1 x2 y2 x3 y3:KK):KK:=(-x2*x3*y1*y3*y3)+(x2*x3*y1)+(-x3*x3*y1*y1*y1*y2*y3)+(x3*x3*y1*y2*y3)+(y1*y1*y1*y2*y3*y3*y3)+(-y1*y1*y1*y2*y3)+(-y1*y2*y3*y3*y3)+(y1*y2*y3)
def assocY2_0 (d x1 y1 x2 y2 x3 y3:KK):KK:=(-d*x1*x1*x2*x2*y1*y2*y3)+(d*x1*x1*x2*x3*y1*y2*y2)+(d*x1*x2*x2*x3*y1*y1*y2)+(-d*x1*x2*y1*y1*y2*y2*y3)+(-x1*x1*x1*x2*x2*x2*y3)+(-x1*x1*x1*x2*x2*x3*y2)+(x1*x1*x1*x2*y2*y2*y3)+(-x1*x1*x1*x2*y3)
def assocY2_1 (d x1 y1 x2 y2 x3 y3:KK):KK:=(x1*x1*x1*x3*y2*y2*y2)+(-x1*x1*x1*x3*y2)+(-x1*x1*x2*x2*x2*x3*y1)+(-x1*x1*x2*x2*y1*y2*y3)+(x1*x1*x2*x3*y1*y2*y2)+(-x1*x1*x2*x3*y1)+(x1*x1*y1*y2*y2*y2*y3)+(-x1*x1*y1*y2*y3)
def assocY2_2 (d x1 y1 x2 y2 x3 y3:KK):KK:=(x1*x2*x2*x2*y1*y1*y3)+(-x1*x2*x2*x2*y3)+(x1*x2*x2*x3*y1*y1*y2)+(-x1*x2*x2*x3*y2)+(-x1*x2*y1*y1*y2*y2*y3)+(x1*x2*y1*y1*y3)+(x1*x2*y2*y2*y3)+(-x1*x2*y3)
def assocY2_3 (d x1 y1 x2 y2 x3 y3:KK):KK:=(-x1*x3*y1*y1*y2*y2*y2)+(x1*x3*y1*y1*y2)+(x1*x3*y2*y2*y2)+(-x1*x3*y2)+(x2*x2*x2*x3*y1*y1*y1)+(-x2*x2*x2*x3*y1)+(x2*x2*y1*y1*y1*y2*y3)+(-x2*x2*y1*y2*y3)
def assocY2_4 (d x1 y1 x2 y2 x3 y3:KK):KK:=(-x2*x3*y1*y1*y1*y2*y2)+(x2*x3*y1*y1*y1)+(x2*x3*y1*y2*y2)+(-x2*x3*y1)+(-y1*y1*y1*y2*y2*y2*y3)+(y1*y1*y1*y2*y3)+(y1*y2*y2*y2*y3)+(-y1*y2*y3)
set_option maxHeartbeats 2000000 in
theorem assocY (d x1 y1 x2 y2 x3 y3:KK):((y1*y2+x1*x2)*(1+(d*x1*x2*y1*y2))*y3+(x1*y2+x2*y1)*(1-(d*x1*x2*y1*y2))*x3)*((1-(d*x3*x2*y3*y2)*(d*x3*x2*y3*y2))-d*(x3*y2+x2*y3)*(y3*y2+x3*x2)*x1*y1) - ((y3*y2+x3*x2)*(1+(d*x3*x2*y3*y2))*y1+(x3*y2+x2*y3)*(1-(d*x3*x2*y3*y2))*x1)*((1-(d*x1*x2*y1*y2)*(d*x1*x2*y1*y2))-d*(x1*y2+x2*y1)*(y1*y2+x1*x2)*x3*y3)=(assocY0_0 d x1 y1 x2 y2 x3 y3+assocY0_1 d x1 y1 x2 y2 x3 y3)*(y1*y1 - x1*x1 - 1 - d*(x1*x1*(y1*y1)))+(assocY1_0 d x1 y1 x2 y2 x3 y3+assocY1_1 d x1 y1 x2 y2 x3 y3+assocY1_2 d x1 y1 x2 y2 x3 y3+assocY1_3 d x1 y1 x2 y2 x3 y3+assocY1_4 d x1 y1 x2 y2 x3 y3+assocY1_5 d x1 y1 x2 y2 x3 y3+assocY1_6 d x1 y1 x2 y2 x3 y3+assocY1_7 d x1 y1 x2 y2 x3 y3)*(y2*y2 - x2*x2 - 1 - d*(x2*x2*(y2*y2)))+(assocY2_0 d x1 y1 x2 y2 x3 y3+assocY2_1 d x1 y1 x2 y2 x3 y3+assocY2_2 d x1 y1 x2 y2 x3 y3+assocY2_3 d x1 y1 x2 y2 x3 y3+assocY2_4 d x1 y1 x2 y2 x3 y3)*(y3*y3 - x3*x3 - 1 - d*(x3*x3*(y3*y3))):=by
 simp only [assocY0_0,assocY0_1,assocY1_0,assocY1_1,assocY1_2,assocY1_3,assocY1_4,assocY1_5,assocY1_6,assocY1_7,assocY2_0,assocY2_1,assocY2_2,assocY2_3,assocY2_4]
 grind
def close0_0 (d x1 y1 x2 y2:KK):KK:=(d*d*d*x1*x1*x2*x2*x2*x2*y1*y1*y2*y2*y2*y2)+(-d*d*x1*x1*x2*x2*x2*x2*y2*y2*y2*y2)+(d*d*x2*x2*x2*x2*y1*y1*y2*y2*y2*y2)+(-d*d*x2*x2*x2*x2*y2*y2*y2*y2)+(-d*x1*x1*x2*x2*x2*x2*y2*y2)+(d*x1*x1*x2*x2*y2*y2*y2*y2)+(d*x2*x2*x2*x2*y1*y1*y2*y2)+(-2*d*x2*x2*x2*x2*y2*y2*y2*y2)
def close0_1 (d x1 y1 x2 y2:KK):KK:=(-d*x2*x2*y1*y1*y2*y2*y2*y2)+(-2*d*x2*x2*y2*y2)+(-2*x2*x2*x2*x2*y2*y2)+(x2*x2*x2*x2)+(2*x2*x2*y2*y2*y2*y2)+(-4*x2*x2*y2*y2)+(y2*y2*y2*y2)
def close1_0 (d x1 y1 x2 y2:KK):KK:=(d*x1*x1*x1*x1*x2*x2*y2*y2)+(2*d*x1*x1*x2*x2*y2*y2)+(d*x2*x2*y1*y1*y1*y1*y2*y2)+(-2*d*x2*x2*y1*y1*y2*y2)+(d*x2*x2*y2*y2)+(2*x1*x1*x2*x2*y2*y2)+(-x1*x1*x2*x2)+(x1*x1*y2*y2)
def close1_1 (d x1 y1 x2 y2:KK):KK:=(-2*x2*x2*y1*y1*y2*y2)+(x2*x2*y1*y1)+(2*x2*x2*y2*y2)+(-x2*x2)+(-y1*y1*y2*y2)+(y2*y2)+(1)
theorem closeE (d x1 y1 x2 y2:KK):((y1*y2+x1*x2)*(1+(d*x1*x2*y1*y2)))*((y1*y2+x1*x2)*(1+(d*x1*x2*y1*y2))) - ((x1*y2+x2*y1)*(1-(d*x1*x2*y1*y2)))*((x1*y2+x2*y1)*(1-(d*x1*x2*y1*y2))) - (1-(d*x1*x2*y1*y2)*(d*x1*x2*y1*y2))*(1-(d*x1*x2*y1*y2)*(d*x1*x2*y1*y2)) - d*((x1*y2+x2*y1)*(x1*y2+x2*y1)*((y1*y2+x1*x2)*(y1*y2+x1*x2)))=(close0_0 d x1 y1 x2 y2+close0_1 d x1 y1 x2 y2)*(y1*y1 - x1*x1 - 1 - d*(x1*x1*(y1*y1)))+(close1_0 d x1 y1 x2 y2+close1_1 d x1 y1 x2 y2)*(y2*y2 - x2*x2 - 1 - d*(x2*x2*(y2*y2))):=by
 simp only [close0_0,close0_1,close1_0,close1_1]
 grind
end Go.Proofs.YtmaehekekkfpmaaDoor
/- The group of a twisted Edwards curve, over any field in which -1 is a square and d is none. -/
namespace Go.Proofs.YtmaehekekkfpmaaDoor
theorem kmul_assoc (a b c:KK):a*b*c=a*(b*c):=by grind
theorem kmul_one (a:KK):a*1=a:=by grind
theorem kone_mul (a:KK):1*a=a:=by grind
theorem kzero_mul (a:KK):0*a=0:=by grind
theorem kmul_zero (a:KK):a*0=0:=by grind
theorem kadd_zero (a:KK):a+0=a:=by grind
theorem ksub_zero (a:KK):a - 0=a:=by grind
theorem ksub_self (a:KK):a - a=0:=by grind
structure Fld (d:KK) (inv:KK→KK):Prop where
 nz : ∀ a b:KK,a*b=0→a=0∨b=0
 one:(1:KK)≠0
 two:(2:KK)≠0
 inv : ∀ a:KK,a≠0→a*inv a=1
 root : ∃ i:KK,i*i = -1
 nsq : ∀ a b:KK,a*a=d*(b*b)→b=0
def On (d x y:KK):Prop:=y*y - x*x - 1 - d*(x*x*(y*y))=0
variable {d:KK} {inv:KK→KK}
theorem Fld.cancel (F:Fld d inv) {a b c:KK} (hc:c≠0) (h:a*c=b*c):a=b:=by
 have:(a - b)*c=0:=by grind
 rcases F.nz _ _ this with h | h
 ·grind
 ·exact absurd h hc
theorem Fld.mul_ne (F:Fld d inv) {a b:KK} (ha:a≠0) (hb:b≠0):a*b≠0:=fun h=>by
 rcases F.nz _ _ h with h | h
 ·exact ha h
 ·exact hb h
theorem Fld.den (F:Fld d inv) {x1 y1 x2 y2:KK} (h1:On d x1 y1) (h2:On d x2 y2) (e:KK) (he:e*e=1):d*x1*x2*y1*y2≠e:=by
 intro hd
 obtain ⟨i,hi⟩:=F.root
 unfold On at h1 h2
 have k1:(i*x1+e*y1)*(i*x1+e*y1)=d*((x1*y1*(i*x2+y2))*(x1*y1*(i*x2+y2))):=by grind
 have k2:(i*x1 - e*y1)*(i*x1 - e*y1)=d*((x1*y1*(i*x2 - y2))*(x1*y1*(i*x2 - y2))):=by grind
 have b1:=F.nsq _ _ k1
 have b2:=F.nsq _ _ k2
 have b3:(x1*y1)*(2*y2)=0:=by grind
 rcases F.nz _ _ b3 with h | h
 ·apply F.one;grind
 ·rcases F.nz _ _ h with h | h
  ·exact F.two h
  ·apply F.one;grind
theorem Fld.plus_ne (F:Fld d inv) {x1 y1 x2 y2:KK} (h1:On d x1 y1) (h2:On d x2 y2):1+d*x1*x2*y1*y2≠0:=fun h =>
 F.den h1 h2 (-1) (by grind) (by grind)
theorem Fld.minus_ne (F:Fld d inv) {x1 y1 x2 y2:KK} (h1:On d x1 y1) (h2:On d x2 y2):1 - d*x1*x2*y1*y2≠0:=fun h =>
 F.den h1 h2 1 (by grind) (by grind)
structure Pt (d:KK) where
 x:KK
 y:KK
 on:On d x y
theorem Pt.ext' {p q:Pt d} (hx:p.x=q.x) (hy:p.y=q.y):p=q:=by
 cases p;cases q;simp only at hx hy;subst hx;subst hy;rfl
theorem add_on (F:Fld d inv) {x1 y1 x2 y2 X Y:KK} (h1:On d x1 y1) (h2:On d x2 y2) (hX:X*(1+d*x1*x2*y1*y2)=x1*y2+x2*y1) (hY:Y*(1 - d*x1*x2*y1*y2)=y1*y2+x1*x2):On d X Y:=by
 have n1:=F.plus_ne h1 h2
 have n2:=F.minus_ne h1 h2
 have c:=closeE d x1 y1 x2 y2
 unfold On at h1 h2 ⊢
 rw [h1,h2] at c
 have m:=F.mul_ne (F.mul_ne n1 n2) (F.mul_ne n1 n2)
 rw [←hX,←hY] at c
 refine F.cancel m ?_
 clear hX hY h1 h2 n1 n2 m
 generalize d*x1*x2*y1*y2=e at *
 rw [kmul_zero,kmul_zero,kadd_zero] at c
 rw [kzero_mul,←c]
 clear c
 grind
def Pt.add (F:Fld d inv) (p q:Pt d):Pt d :=
 ⟨(p.x*q.y+q.x*p.y)*inv (1+d*p.x*q.x*p.y*q.y),(p.y*q.y+p.x*q.x)*inv (1 - d*p.x*q.x*p.y*q.y),
  add_on F p.on q.on (by have:=F.inv _ (F.plus_ne p.on q.on);grind) (by have:=F.inv _ (F.minus_ne p.on q.on);grind)⟩
theorem Pt.add_x (F:Fld d inv) (p q:Pt d):(p.add F q).x*(1+d*p.x*q.x*p.y*q.y)=p.x*q.y+q.x*p.y:=by
 have:=F.inv _ (F.plus_ne p.on q.on)
 show (p.x*q.y+q.x*p.y)*inv (1+d*p.x*q.x*p.y*q.y)*_=_
 grind
theorem Pt.add_y (F:Fld d inv) (p q:Pt d):(p.add F q).y*(1 - d*p.x*q.x*p.y*q.y)=p.y*q.y+p.x*q.x:=by
 have:=F.inv _ (F.minus_ne p.on q.on)
 show (p.y*q.y+p.x*q.x)*inv (1 - d*p.x*q.x*p.y*q.y)*_=_
 grind
theorem Pt.add_unique (F:Fld d inv) (p q r:Pt d) (hx:r.x*(1+d*p.x*q.x*p.y*q.y)=p.x*q.y+q.x*p.y) (hy:r.y*(1 - d*p.x*q.x*p.y*q.y)=p.y*q.y+p.x*q.x):r=p.add F q :=
 Pt.ext' (F.cancel (F.plus_ne p.on q.on) (hx.trans (Pt.add_x F p q).symm)) (F.cancel (F.minus_ne p.on q.on) (hy.trans (Pt.add_y F p q).symm))
theorem Pt.add_comm (F:Fld d inv) (p q:Pt d):p.add F q=q.add F p :=
 Pt.add_unique F q p _ (by have:=Pt.add_x F p q;grind) (by have:=Pt.add_y F p q;grind)
theorem on_zero (d:KK):On d 0 1:=by
 unfold On
 simp only [kone_mul,kzero_mul,kmul_zero,ksub_zero,ksub_self]
def Pt.zero (d:KK):Pt d:=⟨0,1,on_zero d⟩
theorem Pt.add_zero (F:Fld d inv) (p:Pt d):p.add F (Pt.zero d)=p :=
 (Pt.add_unique F p (Pt.zero d) p (by simp only [Pt.zero];grind) (by simp only [Pt.zero];grind)).symm
theorem Pt.zero_add (F:Fld d inv) (p:Pt d):(Pt.zero d).add F p=p:=by rw [Pt.add_comm,Pt.add_zero]
theorem assoc_eq (F:Fld d inv) {a b n m:KK} {u v s t:KK} (hs:s≠0) (ht:t≠0) (h1:a*s=u) (h2:b*t=v) (h:u*t - v*s=0):a=b:=by
 refine F.cancel (F.mul_ne hs ht) ?_
 grind
theorem lift1 {L A B x y e:KK} (h:L*(1+d*A*x*B*y)=A*y+x*B):L*((1+e)*(1 - e)*(1+d*A*x*B*y))=(A*(1+e))*(1 - e)*y+x*(B*(1 - e))*(1+e):=by grind
theorem lift2 {L A B x y e:KK} (h:L*(1 - d*A*x*B*y)=B*y+A*x):L*((1+e)*(1 - e)*(1 - d*A*x*B*y))=(B*(1 - e))*(1+e)*y+(A*(1+e))*(1 - e)*x:=by grind
theorem lift3 {L A B x y e:KK} (h:L*(1+d*x*A*y*B)=x*B+A*y):L*((1+e)*(1 - e)*(1+d*x*A*y*B))=(A*(1+e))*(1 - e)*y+x*(B*(1 - e))*(1+e):=by grind
theorem lift4 {L A B x y e:KK} (h:L*(1 - d*x*A*y*B)=y*B+x*A):L*((1+e)*(1 - e)*(1 - d*x*A*y*B))=(B*(1 - e))*(1+e)*y+(A*(1+e))*(1 - e)*x:=by grind
set_option maxHeartbeats 1000000 in
theorem Pt.add_assoc (F:Fld d inv) (p q r:Pt d):(p.add F q).add F r=p.add F (q.add F r):=by
 have ax:=Pt.add_x F p q
 have ay:=Pt.add_y F p q
 have bx:=Pt.add_x F q r
 have b_y:=Pt.add_y F q r
 have lx:=Pt.add_x F (p.add F q) r
 have ly:=Pt.add_y F (p.add F q) r
 have rx:=Pt.add_x F p (q.add F r)
 have ry:=Pt.add_y F p (q.add F r)
 have n1:=F.plus_ne p.on q.on
 have n2:=F.minus_ne p.on q.on
 have n3:=F.plus_ne q.on r.on
 have n4:=F.minus_ne q.on r.on
 have n5:=F.plus_ne (p.add F q).on r.on
 have n6:=F.minus_ne (p.add F q).on r.on
 have n7:=F.plus_ne p.on (q.add F r).on
 have n8:=F.minus_ne p.on (q.add F r).on
 have cx:=assocX d p.x p.y q.x q.y r.x r.y
 have cy:=assocY d p.x p.y q.x q.y r.x r.y
 have e1:=p.on
 have e2:=q.on
 have e3:=r.on
 unfold On at e1 e2 e3
 rw [e1,e2,e3] at cx cy
 clear e1 e2 e3
 generalize ((p.add F q).add F r)=L at *
 generalize (p.add F (q.add F r))=R at *
 generalize (p.add F q)=A at *
 generalize (q.add F r)=B at *
 obtain ⟨x1,y1,_⟩:=p
 obtain ⟨x2,y2,_⟩:=q
 obtain ⟨x3,y3,_⟩:=r
 obtain ⟨A1,A2,_⟩:=A
 obtain ⟨B1,B2,_⟩:=B
 obtain ⟨L1,L2,_⟩:=L
 obtain ⟨R1,R2,_⟩:=R
 simp only at *
 have m12:=F.mul_ne n1 n2
 have m34:=F.mul_ne n3 n4
 apply Pt.ext' <;> simp only
 ·refine assoc_eq F (n:=0) (m:=0) (F.mul_ne m12 n5) (F.mul_ne m34 n7) rfl rfl ?_
  have k1:L1*((1+d*x1*x2*y1*y2)*(1 - d*x1*x2*y1*y2)*(1+d*A1*x3*A2*y3))=(x1*y2+x2*y1)*(1-(d*x1*x2*y1*y2))*y3+x3*(y1*y2+x1*x2)*(1+(d*x1*x2*y1*y2)):=by
   rw [←ax,←ay]
   exact lift1 lx
  have k2:R1*((1+d*x2*x3*y2*y3)*(1 - d*x2*x3*y2*y3)*(1+d*x1*B1*y1*B2))=(x3*y2+x2*y3)*(1-(d*x3*x2*y3*y2))*y1+x1*(y3*y2+x3*x2)*(1+(d*x3*x2*y3*y2)):=by
   rw [show x3*y2+x2*y3=x2*y3+x3*y2 by grind,show y3*y2+x3*x2=y2*y3+x2*x3 by grind,←bx,←b_y,show d*x3*x2*y3*y2=d*x2*x3*y2*y3 by grind]
   exact lift3 rx
  have k3:(1+d*x1*x2*y1*y2)*(1 - d*x1*x2*y1*y2)*(1+d*A1*x3*A2*y3)=((1-(d*x1*x2*y1*y2)*(d*x1*x2*y1*y2))+d*(x1*y2+x2*y1)*(y1*y2+x1*x2)*x3*y3):=by
   rw [←ax,←ay]
   generalize d*x1*x2*y1*y2=e at *
   grind
  have k4:(1+d*x2*x3*y2*y3)*(1 - d*x2*x3*y2*y3)*(1+d*x1*B1*y1*B2)=((1-(d*x3*x2*y3*y2)*(d*x3*x2*y3*y2))+d*(x3*y2+x2*y3)*(y3*y2+x3*x2)*x1*y1):=by
   rw [show x3*y2+x2*y3=x2*y3+x3*y2 by grind,show y3*y2+x3*x2=y2*y3+x2*x3 by grind,←bx,←b_y,show d*x3*x2*y3*y2=d*x2*x3*y2*y3 by grind]
   generalize d*x2*x3*y2*y3=e at *
   grind
  rw [k1,k2,k3,k4,cx,kmul_zero,kmul_zero,kmul_zero,kadd_zero,kadd_zero]
 ·refine assoc_eq F (n:=0) (m:=0) (F.mul_ne m12 n6) (F.mul_ne m34 n8) rfl rfl ?_
  have k1:L2*((1+d*x1*x2*y1*y2)*(1 - d*x1*x2*y1*y2)*(1 - d*A1*x3*A2*y3))=(y1*y2+x1*x2)*(1+(d*x1*x2*y1*y2))*y3+(x1*y2+x2*y1)*(1-(d*x1*x2*y1*y2))*x3:=by
   rw [←ax,←ay]
   exact lift2 ly
  have k2:R2*((1+d*x2*x3*y2*y3)*(1 - d*x2*x3*y2*y3)*(1 - d*x1*B1*y1*B2))=(y3*y2+x3*x2)*(1+(d*x3*x2*y3*y2))*y1+(x3*y2+x2*y3)*(1-(d*x3*x2*y3*y2))*x1:=by
   rw [show x3*y2+x2*y3=x2*y3+x3*y2 by grind,show y3*y2+x3*x2=y2*y3+x2*x3 by grind,←bx,←b_y,show d*x3*x2*y3*y2=d*x2*x3*y2*y3 by grind]
   exact lift4 ry
  have k3:(1+d*x1*x2*y1*y2)*(1 - d*x1*x2*y1*y2)*(1 - d*A1*x3*A2*y3)=((1-(d*x1*x2*y1*y2)*(d*x1*x2*y1*y2))-d*(x1*y2+x2*y1)*(y1*y2+x1*x2)*x3*y3):=by
   rw [←ax,←ay]
   generalize d*x1*x2*y1*y2=e at *
   grind
  have k4:(1+d*x2*x3*y2*y3)*(1 - d*x2*x3*y2*y3)*(1 - d*x1*B1*y1*B2)=((1-(d*x3*x2*y3*y2)*(d*x3*x2*y3*y2))-d*(x3*y2+x2*y3)*(y3*y2+x3*x2)*x1*y1):=by
   rw [show x3*y2+x2*y3=x2*y3+x3*y2 by grind,show y3*y2+x3*x2=y2*y3+x2*x3 by grind,←bx,←b_y,show d*x3*x2*y3*y2=d*x2*x3*y2*y3 by grind]
   generalize d*x2*x3*y2*y3=e at *
   grind
  rw [k1,k2,k3,k4,cy,kmul_zero,kmul_zero,kmul_zero,kadd_zero,kadd_zero]
end Go.Proofs.YtmaehekekkfpmaaDoor
