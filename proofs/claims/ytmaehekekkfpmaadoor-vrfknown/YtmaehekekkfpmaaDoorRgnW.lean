/- Operations of a region that are passed over. -/
import Derived.Test.YtmaehekekkfpmaaDoorRgnU
import Derived.Deep.MidRow
set_option linter.unusedSimpArgs false
set_option linter.unusedVariables false
namespace Go.Proofs.YtmaehekekkfpmaaDoor.RU
open Go Go.RowKit
section
variable {P:Program} {ops:Array Oper} {Q:Exit→Act→World→Prop} {a0:Act} {cs:List Nat} {f:Nat→Value} {K:Nat→Nat} {Ω:Nat→(Nat→Value)→World→Prop}
theorem wanted_not {o og:Oper} {a:Act} {g d:Nat} {b:Bool} (h:o.guard=some (g,b)) (hg:ops[g]? = some og) (hd:og.dst=some d) (he:a.eval (.tmp d) ≠ .bool b):Region.wanted o (yielded ops a.tmps)=false:=by
 unfold Region.wanted;rw [h]
 simp only
 cases hy:yielded ops a.tmps g with
 | none=>rfl
 | some x =>
  have:x≠b:=by
   intro e;subst e
   apply he
   unfold yielded at hy
   rw [hg] at hy
   simp only [Option.bind_some,hd] at hy
   simp only [Act.eval,Array.getD_eq_getD_getElem?]
   cases hx:a.tmps[d]? with
   | none=>rw [hx] at hy;simp at hy
   | some v =>
    rw [hx] at hy
    cases v <;> simp at hy
    subst hy;rfl
  cases x <;> cases b <;> first | rfl | exact absurd rfl this
theorem ObT.skip {i:Nat} {o og:Oper} {g d:Nat} {b:Bool} (hat:at' cs i=none) (ho:ops[i]? = some o) (hgd:o.guard=some (g,b)) (hog:ops[g]? = some og) (hd:og.dst=some d) (hp:predB ops i g d=true) (hv : ∀ U,val cs f U g ≠ .bool b) (hf:f i=undef):ObT P ops Q a0 cs f K Ω i:=by
 refine ObT.silent hat (fun a w k U h1 h2 h3 hk => ?_)
 have hw:Region.wanted o (yielded ops a.tmps)=false:=wanted_not hgd hog hd (by rw [h3 g d hp];exact hv U)
 unfold wpOp
 simp only [ho,hw]
 refine ⟨?_,h1⟩
 rw [hf];rfl
end
end Go.Proofs.YtmaehekekkfpmaaDoor.RU
