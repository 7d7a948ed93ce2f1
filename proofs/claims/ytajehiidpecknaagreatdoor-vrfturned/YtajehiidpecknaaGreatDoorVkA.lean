import Derived.Test.YtajehiidpecknaaGreatDoorWirA
import Derived.Test.YtajehiidpecknaaGreatDoorRgnG
import Derived.Great.BuildSlice
import Derived.Deep.MidRow
import Derived.Lib.AppendZeros
set_option linter.all false
namespace Go.Proofs.YtajehiidpecknaaGreatDoor.Wi
open Go Go.RowKit
set_option maxRecDepth 100000
structure L32 (x:List Int):Prop where
 len:x.length=32
 byt:Byt x
theorem bG (w:World):(zeroValue 22).run Tryz.prog w = .ok (.agg (bv (List.replicate 32 0)).toArray) w:=by kernel_rfl
def z32:List Int:=List.replicate 32 0
theorem aF:(Tryz.prog.info? 22).map (·.size)=some 32:=by kernel_rfl
theorem aD {x:List Int} (h:L32 x):(Tryz.prog.info? 22).map (·.size)=some (bv x).length:=by rw [ae,h.len];exact aF
theorem af {B b:Nat} (hb:B≤b) : ∀ (vs:List Value) (o:Nat) {w W:World},Below B w W→Below B w (W.setCells b o vs)
 | [],_,_,_,h=>h
 | v :: r,o,w,W,h=>by
  rw [World.setCells]
  exact af hb r (o+1) (h.trans ⟨rfl,rfl,rfl,by simp [World.setCell],fun k hk=>Below.heap_setCell _ _ _ k (by show k≠b;omega)⟩)
theorem aO {w:World} {g:Nat} {cs:Array Value} {t:TypeId} (hg:w.heap[g]? = some (.cells cs t (0,0))) (o n:Nat) (hn:o+n≤cs.size):w.there g o n:=fun j hj =>
 ⟨by rw [cell_of_row w g (o+j) cs t _ hg,Array.getElem?_eq_getElem (by omega)];rfl,frozen_of_row _ _ _ _ _ hg⟩
theorem ar (x:List Int):(bv x).toArray.all (·.oneCell')=true:=all_oneCell_toArray (ia x)
theorem eh:(Tryz.prog.info? 5).map (·.size)=some 1:=by kernel_rfl
theorem rE (x y:List Int) (hx:x.length=32) (hy:y.length=32) (d:Nat) (w:World) : ∀ is:List Nat,(∀ i ∈ is,i<32) →
  (Op.eqItems (d+1) 5 (Tryz.prog.cellsOf 5) (bv x).toArray (bv y).toArray is).run Tryz.prog w = .ok (is.all fun i=>gi x i == gi y i) w
 | [],_=>by simp [Op.eqItems]
 | i :: is,h=>by
  have hi:=h i (by simp)
  have hc:Tryz.prog.cellsOf 5=1:=by kernel_rfl
  have hp:Tryz.prog.plainKey 5=true:=by kernel_rfl
  have p1:=run_part_plain (P:=Tryz.prog) w hp (xs:=(bv x).toArray) (off:=i) (v := .int .u8 (gi x i)) (by rw [List.getElem?_toArray];exact de x (by omega))
  have p2:=run_part_plain (P:=Tryz.prog) w hp (xs:=(bv y).toArray) (off:=i) (v := .int .u8 (gi y i)) (by rw [List.getElem?_toArray];exact de y (by omega))
  have p3:=run_equalIn_int (P:=Tryz.prog) w d 5 .u8 .u8 (gi x i) (gi y i) Tryz.underlying5
  have ih:=rE x y hx hy d w is (fun j hj=>h j (by simp [hj]))
  rw [hc] at ih
  simp only [Op.eqItems,hc,Nat.mul_one,Sem.run_bind,p1,p2,p3,Result.andThen_ok,List.all_cons]
  cases hq:(gi x i == gi y i) with
  | true=>simp only [Bool.not_true,Bool.false_eq_true,if_false,Bool.true_and];exact ih
  | false=>simp
theorem KH {x y:List Int} (hx:x.length=32) (hy:y.length=32):((List.range 32).all fun i=>gi x i == gi y i)=decide (x=y):=by
 by_cases h:x=y
 ·subst h;simp
 ·rw [decide_eq_false h,List.all_eq_false]
  refine Classical.byContradiction fun hn=>h ?_
  apply List.ext_getElem (by omega)
  intro i h1 h2
  have:gi x i=gi y i:=by
   refine Classical.byContradiction fun hne=>hn ⟨i,List.mem_range.2 (by omega),?_⟩
   simpa using hne
  simpa [gi,h1,h2] using this
theorem eq_32 {x y:List Int} (hx:L32 x) (hy:L32 y) (w:World):(Op.equalIn 10000 22 (.agg (bv x).toArray) (.agg (bv y).toArray)).run Tryz.prog w = .ok (decide (x=y)) w:=by
 obtain ⟨i,hi⟩ : ∃ i,Tryz.prog.info? 5=some i:=by
  cases h:Tryz.prog.info? 5 with
  | none=>have:=eh;rw [h] at this;cases this
  | some i=>exact ⟨i,rfl⟩
 have:=run_equalIn_array (P:=Tryz.prog) w 9999 (bv x).toArray (bv y).toArray Tryz.underlying22 hi
 rw [rE x y hx.len hy.len 9998 w _ (fun i hi=>List.mem_range.1 hi),KH hx.len hy.len] at this
 exact this
theorem xC (op:BinOp) (x y:Operand) (a b:Array Value) (w:World):(eqGuard op 22 x y (.agg a) (.agg b)).run Tryz.prog w = .ok () w:=by
 have h:Tryz.prog.eqGuardType Tryz.prog.depth 22=false:=by kernel_rfl
 unfold eqGuard
 cases op <;> first | (simp [h,Result.andThen];done) | kernel_rfl
theorem yf {x y:List Int} (hx:L32 x) (hy:L32 y) (w:World):(binOp .neq 22 (.agg (bv x).toArray) (.agg (bv y).toArray)).run Tryz.prog w = .ok (.bool (!decide (x=y))) w:=by
 have h:(Op.equalIn Op.maxDepth 22 (.agg (bv x).toArray) (.agg (bv y).toArray)).run Tryz.prog w = .ok (decide (x=y)) w:=eq_32 hx hy w
 simp [binOp,h,Op.equal,go_sem]
theorem bM (w:World) {Z:Array Value} {t:TypeId} {n:Nat} (hn:n=Z.size):(w.alloc (.cells Z t)).there w.heap.size 0 n:=by
 have:(w.alloc (.cells Z t)).heap[w.heap.size]? = some (.cells Z t (0,0)):=by show (w.heap.push _)[w.heap.size]? = _;simp
 exact aO this 0 n (by omega)
theorem aS {w U:World} {Z:Array Value} {cs:List Value} (hz:cs.length=Z.size) (h0:0<cs.length) {t:TypeId} (e:(w.alloc (.cells Z t)).setCells w.heap.size 0 cs=U):U.rangeAt w.heap.size 0 cs∧Below w.heap.size w U∧w.heap.size<U.heap.size:=by
 have h1:U.rangeAt w.heap.size 0 cs:=by rw [←e];exact World.rangeAt_setCells_same _ _ _ _ (bM w hz)
 have h2:Below w.heap.size w U:=by rw [←e];exact af (Nat.le_refl _) _ _ ((Below.refl _ w).alloc (Nat.le_refl _) _)
 refine ⟨h1,h2,?_⟩
 have:=h1 0 _ (List.getElem?_eq_getElem h0)
 unfold World.cell? at this
 cases hh:U.heap[w.heap.size]? with
 | none=>rw [show ((⟨w.heap.size,0+0,none⟩:Addr).block)=w.heap.size from rfl,hh] at this;cases this
 | some X=>exact (YM.1 hh).1
theorem vg (w:World):(Instr.build 22 #[]).run Tryz.prog w = .ok (.agg (bv z32).toArray) w:=run_build w _ _ _ (by kernel_rfl)
theorem Below.tr' {a b c:World} (h1:Below a.heap.size a b) (h2:Below b.heap.size b c):Below a.heap.size a c:=h1.trans (h2.mono h1.size)
theorem aa {w w':World} {b o:Nat} {cs:List Value} (h:w.rangeAt b o cs) (hb:Below w.heap.size w w') (hlt:b<w.heap.size):w'.rangeAt b o cs:=fun j v hj=>(hb.cell (p:=⟨b,o+j,none⟩) hlt).trans (h j v hj)
theorem lP {P:Program} {ops:Array Oper} {rest:List Oper} {op:Oper} {a:Act} {w:World} {Q:Exit→Act→World→Prop} (hw:Region.wanted op (yielded ops a.tmps)=true) (ty:TypeId) (x:Operand) (ho:op.op = .load ty x)
  (b o:Nat) (hx:a.eval x = .pointer (some ⟨b,o,none⟩)) (cs:List Value) (d:TypeDesc) (hc:w.rangeAt b o cs)
  (hu:P.underlying ty=some d) (hd:d.isRow=true) (hi:(P.info? ty).map (·.size)=some cs.length)
  (h:wpList P ops Q rest (a.put op.dst (.agg cs.toArray)) w):wpList P ops Q (op :: rest) a w:=by
 unfold wpList
 rw [if_pos hw]
 exact .inl (wp_load_mid ty x ho b o hx cs d hc hu hd hi h)
theorem cr:L32 z32:=⟨by simp [z32],fun z hz=>by simp [z32] at hz;omega⟩
theorem eF (w:World) (l:List Value) (t:TypeId) (f:Nat × Nat):(w.alloc (.cells l.toArray t f)).rangeAt w.heap.size 0 l:=fun j v hj=>by
 rw [Nat.zero_add,fu];simpa using hj
theorem bo {w:World} {b o:Nat} {x:List Int} (h:L32 x) (hr:w.rangeAt b o (bv x)) (hb:b<w.heap.size):Sl w (.slice (some ⟨b,o,none⟩) 32 32) x :=
 ⟨_,32,by rw [h.len],by rw [h.len];omega,.inr ⟨b,o,rfl,hb,fun i hi=>hr i _ (de x hi)⟩⟩
theorem fm {W W':World} {b o n:Nat} (h:W.there b o n) (e:W'.heap[b]? = W.heap[b]?):W'.there b o n:=fun j hj=>by
 obtain ⟨h1,h2⟩:=h j hj
 unfold World.cell? at h1 ⊢
 unfold World.frozen? at h2 ⊢
 rw [e];exact ⟨h1,h2⟩
theorem oP {W W':World} {b o:Nat} {cs:List Value} (h:W.rangeAt b o cs) (e:W'.heap[b]? = W.heap[b]?):W'.rangeAt b o cs:=fun j v hj=>by
 have:=h j v hj
 unfold World.cell? at this ⊢
 rw [e];exact this
theorem bR (b:Nat) : ∀ (vs:List Value) (o:Nat) (w:World),(w.setCells b o vs).heap.size=w.heap.size
 | [],_,_=>rfl
 | v :: r,o,w=>by
  rw [World.setCells,bR b r (o+1)]
  simp [World.setCell]
abbrev Al:=Nat × Nat × List Value × List Value
structure GI (U:World) (f:Nat→Option Value) (φ:Nat→Value→World→Prop) (L:List Al) (d:Nat→Bool) (V:Nat→Value) (W:World):Prop where
 be:Below U.heap.size U W
 kn : ∀ i v,f i=some v→d i=true→V i=v
 pr : ∀ i,d i=true→(∀ x ∈ L,d x.2.1=false)→φ i (V i) W
 pt : ∀ x ∈ L,d x.1=true → ∃ b,V x.1 = .pointer (some ⟨b,0,none⟩)∧U.heap.size≤b∧b<W.heap.size∧W.there b 0 x.2.2.2.length∧W.rangeAt b 0 (if d x.2.1=true then x.2.2.1 else x.2.2.2)
 ne : ∀ x ∈ L,∀ y ∈ L,x.1≠y.1→d x.1=true→d y.1=true→V x.1≠V y.1
theorem bA {d:Nat→Bool} {i j:Nat} (h:j≠i):RG.setd d i j=d j:=by unfold RG.setd;rw [if_neg h]
theorem bV {V:Nat→Value} {i j:Nat} {v:Value} (h:j≠i):RG.updV V i v j=V j:=by unfold RG.updV;rw [if_neg h]
theorem lv {d:Nat→Bool} {i:Nat} : RG.setd d i i=true:=by unfold RG.setd;rw [if_pos rfl]
theorem eY {V:Nat→Value} {i:Nat} {v:Value} : RG.updV V i v i=v:=by unfold RG.updV;rw [if_pos rfl]
theorem GI.start {U:World} {f:Nat→Option Value} {φ:Nat→Value→World→Prop} {L:List Al} {V:Nat→Value} : GI U f φ L (fun _=>false) V U.drew :=
 ⟨(Below.refl _ _).drew,(fun _ _ _ h=>by cases h),(fun _ h=>by cases h),(fun _ _ h=>by cases h),(fun _ _ _ _ _ h=>by cases h)⟩
theorem GI.step {U:World} {f:Nat→Option Value} {φ:Nat→Value→World→Prop} {L:List Al} {d:Nat→Bool} {V:Nat→Value} {W W':World} (h:GI U f φ L d V W) (mono : ∀ i v W W',φ i v W→Below W.heap.size W W'→φ i v W') (hb:Below W.heap.size W W') (i:Nat) (v:Value)
  (hns : ∀ x ∈ L,x.1≠i∧x.2.1≠i) (hk : ∀ u,f i=some u→v=u) (hφ:φ i v W'):GI U f φ L (RG.setd d i) (RG.updV V i v) W':=by
 refine ⟨h.be.trans (hb.mono h.be.size),fun j u hj hd => ?_,fun j hd hno => ?_,fun x hx hd => ?_,fun x hx y hy hxy h1 h2 => ?_⟩
 ·by_cases q:j=i
  ·subst q;rw [eY];exact hk u hj
  ·rw [bA q] at hd;rw [bV q];exact h.kn j u hj hd
 ·by_cases q:j=i
  ·subst q;rw [eY];exact hφ
  ·rw [bA q] at hd;rw [bV q]
   exact mono _ _ _ _ (h.pr j hd (fun x hx=>by have:=hno x hx;rwa [bA (hns x hx).2] at this)) hb
 ·obtain ⟨n1,n2⟩:=hns x hx
  rw [bA n1] at hd
  rw [bV n1,bA n2]
  obtain ⟨b,q1,q2,q3,q4,q5⟩:=h.pt x hx hd
  exact ⟨b,q1,q2,YI q3 hb.size,fm q4 (hb.block b q3),oP q5 (hb.block b q3)⟩
 ·rw [bA (hns x hx).1] at h1
  rw [bA (hns y hy).1] at h2
  rw [bV (hns x hx).1,bV (hns y hy).1]
  exact h.ne x hx y hy hxy h1 h2
theorem GI.alloc {U:World} {f:Nat→Option Value} {φ:Nat→Value→World→Prop} {L:List Al} {d:Nat→Bool} {V:Nat→Value} {W:World} (h:GI U f φ L d V W) (mono : ∀ i v W W',φ i v W→Below W.heap.size W W'→φ i v W') (x:Al) (hx:x ∈ L) (t:TypeId) (hst:d x.2.1=false)
  (huq : ∀ y ∈ L,y.1=x.1→y=x) (hns : ∀ y ∈ L,y.2.1≠x.1) (hfn:f x.1=none) (hφ : ∀ v W',φ x.1 v W') :
  GI U f φ L (RG.setd d x.1) (RG.updV V x.1 (.pointer (some ⟨W.heap.size,0,none⟩))) (W.alloc (.cells x.2.2.2.toArray t)):=by
 have hb:Below W.heap.size W (W.alloc (.cells x.2.2.2.toArray t)):=(Below.refl _ W).alloc (Nat.le_refl _) _
 have hh:(W.alloc (.cells x.2.2.2.toArray t)).heap[W.heap.size]? = some (.cells x.2.2.2.toArray t (0,0)):=by show (W.heap.push _)[W.heap.size]? = _;simp
 have old : ∀ y ∈ L,y.1≠x.1→d y.1=true → ∃ b,V y.1 = .pointer (some ⟨b,0,none⟩)∧b<W.heap.size:=fun y hy _ hd=>by
  obtain ⟨b,q1,-,q3,-,-⟩:=h.pt y hy hd;exact ⟨b,q1,q3⟩
 refine ⟨h.be.trans (hb.mono h.be.size),fun j u hj hd => ?_,fun j hd hno => ?_,fun y hy hd => ?_,fun y hy z hz hyz h1 h2 => ?_⟩
 ·by_cases q:j=x.1
  ·subst q;rw [hfn] at hj;cases hj
  ·rw [bA q] at hd;rw [bV q];exact h.kn j u hj hd
 ·by_cases q:j=x.1
  ·subst q;exact hφ _ _
  ·rw [bA q] at hd;rw [bV q]
   exact mono _ _ _ _ (h.pr j hd (fun y hy=>by have:=hno y hy;rwa [bA (hns y hy)] at this)) hb
 ·by_cases q:y.1=x.1
  ·obtain rfl:=huq y hy q
   rw [eY,bA (hns y hy),hst,if_neg (by decide)]
   exact ⟨W.heap.size,rfl,h.be.size,by simp,aO hh 0 _ (by simp),eF W _ t (0,0)⟩
  ·rw [bA q] at hd
   rw [bV q,bA (hns y hy)]
   obtain ⟨b,q1,q2,q3,q4,q5⟩:=h.pt y hy hd
   exact ⟨b,q1,q2,YI q3 hb.size,fm q4 (hb.block b q3),oP q5 (hb.block b q3)⟩
 ·by_cases q:y.1=x.1
  ·have q':z.1≠x.1:=fun e=>hyz (q.trans e.symm)
   rw [bA q'] at h2
   obtain ⟨b,e,hl⟩:=old z hz q' h2
   rw [q,eY,bV q',e]
   intro he
   simp only [Value.pointer.injEq,qG,Addr.mk.injEq,and_true] at he
   omega
  ·rw [bA q] at h1
   by_cases q':z.1=x.1
   ·obtain ⟨b,e,hl⟩:=old y hy q h1
    rw [q',eY,bV q,e]
    intro he
    simp only [Value.pointer.injEq,qG,Addr.mk.injEq,and_true] at he
    omega
   ·rw [bA q'] at h2
    rw [bV q,bV q']
    exact h.ne y hy z hz hyz h1 h2
theorem GI.store {U:World} {f:Nat→Option Value} {φ:Nat→Value→World→Prop} {L:List Al} {d:Nat→Bool} {V:Nat→Value} {W:World} (h:GI U f φ L d V W) (x:Al) (hx:x ∈ L) (hd0:d x.1=true) {b:Nat} (hV:V x.1 = .pointer (some ⟨b,0,none⟩)) (v:Value)
  (huq : ∀ y ∈ L,y.2.1=x.2.1→y=x) (hns : ∀ y ∈ L,y.1≠x.2.1) (hfn:f x.2.1=none) (hlen:x.2.2.1.length=x.2.2.2.length) (hone : ∀ y ∈ L,y≠x→y.1≠x.1) :
  GI U f φ L (RG.setd d x.2.1) (RG.updV V x.2.1 v) (W.setCells b 0 x.2.2.1):=by
 obtain ⟨b',e,p1,p2,p3,p4⟩:=h.pt x hx hd0
 rw [hV] at e
 obtain rfl:b=b':=by simpa using e
 refine ⟨af p1 _ _ h.be,fun j u hj hd => ?_,fun j hd hno => ?_,fun y hy hd => ?_,fun y hy z hz hyz h1 h2 => ?_⟩
 ·by_cases q:j=x.2.1
  ·subst q;rw [hfn] at hj;cases hj
  ·rw [bA q] at hd;rw [bV q];exact h.kn j u hj hd
 ·have:=hno x hx;rw [lv] at this;cases this
 ·rw [bA (hns y hy)] at hd
  rw [bV (hns y hy)]
  by_cases q:y=x
  ·subst q
   rw [lv,if_pos rfl]
   refine ⟨b,hV,p1,by rw [bR];exact p2,?_,?_⟩
   ·exact World.there_setCells p3 _ _ _
   ·exact World.rangeAt_setCells_same _ _ _ _ (by rw [hlen];exact p3)
  ·have q2:y.2.1≠x.2.1:=fun e=>q (huq y hy e)
   rw [bA q2]
   obtain ⟨b2,r1,r2,r3,r4,r5⟩:=h.pt y hy hd
   have hne:b2≠b:=fun e=>h.ne y hy x hx (hone y hy q) hd hd0 (by rw [r1,hV,e])
   exact ⟨b2,r1,r2,by rw [bR];exact r3,World.there_setCells r4 _ _ _,World.rangeAt_setCells_apart r5 _ _ _ (.inl hne)⟩
 ·rw [bA (hns y hy)] at h1
  rw [bA (hns z hz)] at h2
  rw [bV (hns y hy),bV (hns z hz)]
  exact h.ne y hy z hz hyz h1 h2
section
def GL (U:World) (f:Nat→Option Value) (φ:Nat→Value→World→Prop) (L:List Al) (s b o:Nat) (cs:List Value) (d:Nat→Bool) (V:Nat→Value) (W:World):Prop :=
 (d s=false∧GI U f φ L d V W)∨(d s=true∧(∀ i v,f i=some v→d i=true→V i=v) ∧ ∃ W0,Below U.heap.size U W0∧W=W0.setCells b o cs)
variable {U:World} {f:Nat→Option Value} {φ:Nat→Value→World→Prop} {L:List Al} {s b o:Nat} {cs:List Value}
theorem GL.start {V:Nat→Value} : GL U f φ L s b o cs (fun _=>false) V U.drew := .inl ⟨rfl,GI.start⟩
variable {P:Program} {ops:Array Oper} {Q:Exit→Act→World→Prop} {a0:Act}
theorem GL.ob {i:Nat} (hs:(RU.px ops s).contains i=true) (h : ∀ a w d V,GI U f φ L d V w→d i=false→(∀ p,(RU.px ops i).contains p=true→d p=true)→(∀ j,(RU.px ops j).contains i=true→d j=false)→(∀ t,RU.early ops i t=true→a.eval (.tmp t)=a0.eval (.tmp t))→(∀ p t,RU.predB ops i p t=true→a.eval (.tmp t)=V p) →
  wpOp P ops Q i (fun a' w' => ∃ v,a'=a.put ((ops[i]?).bind (·.dst)) v∧GI U f φ L (RG.setd d i) (RG.updV V i v) w') a w):RG.Ob P ops Q a0 (GL U f φ L s b o cs) i:=by
 intro a w d V hG hd hpx hbk hf hp
 have hsf:d s=false:=hbk s hs
 rcases hG with ⟨-,hI⟩ | ⟨hbad,-⟩
 ·refine wpOp_mono (fun a' w' ⟨v,e,q⟩=>⟨v,e,.inl ⟨?_,q⟩⟩) (h a w d V hI hd hpx hbk hf hp)
  unfold RG.setd
  rw [if_neg (fun e => ?_)]
  ·exact hsf
  ·subst e
   have:=hpx s hs
   rw [hsf] at this;cases this
 ·rw [hsf] at hbad;cases hbad
theorem GL.obs (h : ∀ a w d V,GI U f φ L d V w→d s=false→(∀ p,(RU.px ops s).contains p=true→d p=true)→(∀ j,(RU.px ops j).contains s=true→d j=false)→(∀ t,RU.early ops s t=true→a.eval (.tmp t)=a0.eval (.tmp t))→(∀ p t,RU.predB ops s p t=true→a.eval (.tmp t)=V p) →
  wpOp P ops Q s (fun a' w' => ∃ v,a'=a.put ((ops[s]?).bind (·.dst)) v∧GL U f φ L s b o cs (RG.setd d s) (RG.updV V s v) w') a w):RG.Ob P ops Q a0 (GL U f φ L s b o cs) s:=by
 intro a w d V hG hd hpx hbk hf hp
 rcases hG with ⟨-,hI⟩ | ⟨hbad,-⟩
 ·exact h a w d V hI hd hpx hbk hf hp
 ·rw [hd] at hbad;cases hbad
theorem GL.stored {d:Nat→Bool} {V:Nat→Value} {W:World} (h:GI U f φ L d V W) (hfn:f s=none) (v:Value):GL U f φ L s b o cs (RG.setd d s) (RG.updV V s v) (W.setCells b o cs):=by
 refine .inr ⟨lv,fun i u hi hd => ?_,W,h.be,rfl⟩
 by_cases q:i=s
 ·subst q;rw [hfn] at hi;cases hi
 ·rw [bA q] at hd;rw [bV q];exact h.kn i u hi hd
theorem GL.oba {i:Nat} (hs:(RU.px ops i).contains s=true) (h : ∀ a w d V,(∀ i v,f i=some v→d i=true→V i=v)→d i=false→(∀ p,(RU.px ops i).contains p=true→d p=true)→(∀ t,RU.early ops i t=true→a.eval (.tmp t)=a0.eval (.tmp t))→(∀ p t,RU.predB ops i p t=true→a.eval (.tmp t)=V p) →
  (∀ v,(∀ u,f i=some u→v=u)→GL U f φ L s b o cs (RG.setd d i) (RG.updV V i v) w) →
  wpOp P ops Q i (fun a' w' => ∃ v,a'=a.put ((ops[i]?).bind (·.dst)) v∧GL U f φ L s b o cs (RG.setd d i) (RG.updV V i v) w') a w):RG.Ob P ops Q a0 (GL U f φ L s b o cs) i:=by
 intro a w d V hG hd hpx hbk hf hp
 have hst:=hpx s hs
 rcases hG with ⟨hbad,-⟩ | ⟨-,hK,W0,hB,hW⟩
 ·rw [hst] at hbad;cases hbad
 ·refine h a w d V hK hd hpx hf hp (fun v hv => .inr ⟨?_,fun j u hj hdj => ?_,W0,hB,hW⟩)
  ·unfold RG.setd;split
   ·rfl
   ·exact hst
  ·by_cases q:j=i
   ·subst q;rw [eY];exact hv u hj
   ·rw [bA q] at hdj;rw [bV q];exact hK j u hj hdj
theorem GL.fin {d:Nat→Bool} {V:Nat→Value} {W:World} (h:GL U f φ L s b o cs d V W) (hd:d s=true):(∀ i v,f i=some v→d i=true→V i=v) ∧ ∃ W0,Below U.heap.size U W0∧W=W0.setCells b o cs:=by
 rcases h with ⟨hbad,-⟩ | ⟨-,hK,W0,hB,hW⟩
 ·rw [hd] at hbad;cases hbad
 ·exact ⟨hK,W0,hB,hW⟩
end
theorem dO (g o j:Nat):(⟨g,o,none⟩:Addr).add j=⟨g,o+j,none⟩:=bL g o j
theorem Kz {W:World} {u1 u2:Value} {p1 p2:List Int} (T:TypeId) (h1:Sl W u1 p1) (h2:Sl W u2 p2):LL (W.alloc (.cells #[u1,u2] T)) (.slice (some ⟨W.heap.size,0,none⟩) 2 2) [p1,p2]:=by
 have hb:Below W.heap.size W (W.alloc (.cells #[u1,u2] T)):=(Below.refl _ W).alloc (Nat.le_refl _) _
 refine ⟨_,2,rfl,by simp,.inr ⟨W.heap.size,0,rfl,by simp,fun i hi => ?_⟩⟩
 match i,hi with
 | 0,_=>exact ⟨u1,fu W #[u1,u2] T _ 0,h1.below hb (Nat.le_refl _)⟩
 | 1,_=>exact ⟨u2,fu W #[u1,u2] T _ 1,h2.below hb (Nat.le_refl _)⟩
end Go.Proofs.YtajehiidpecknaaGreatDoor.Wi
namespace Go.Proofs.YtajehiidpecknaaGreatDoor.Wi
open Go Go.ChangeShapes Go.WideShapes Go.ChangeAt Go.RowKit
set_option maxRecDepth 100000
theorem Fb {H:Type} {enc:TypeId × Value→H} {W:World} {t:TypeId} {n fuel:Nat} {cs:List Value} {y:DataW H × List MemPlace} (ht:Tryz.prog.underlying t=some (.array n 5)) (hc:Tryz.prog.cellsOf t=n)
  (h:DataW.trod enc Tryz.prog W 0 (fun _=>true) true fuel t cs=some y) : ∃ xs,cs=bv xs∧xs.length=n∧Byt xs:=by
 obtain ⟨xs,m,_,_,hl,hlen,hf⟩:=DataW.trod_array ht h
 rw [hc] at hl
 have h1:Tryz.prog.cellsOf 5=1:=by kernel_rfl
 have each : ∀ i,∃ z:Int,i<n→cs[i]? = some (.int .u8 z)∧(0≤z∧z≤255):=by
  intro i
  by_cases hi:i<n
  ·have:=hf i hi
   have hx:xs[i]? = some xs[i]:=List.getElem?_eq_getElem (by omega)
   rw [hx,h1,Nat.mul_one] at this
   obtain ⟨z,hz,-,hw⟩:=DataW.trod_int Tryz.underlying5 this
   refine ⟨z,fun _=>⟨?_,yW hw⟩⟩
   have e:((cs.drop i).take 1)[0]? = some (.int .u8 z):=by rw [hz];rfl
   rw [List.getElem?_take,if_pos (by omega),List.getElem?_drop] at e
   simpa using e
  ·exact ⟨0,fun h=>absurd h hi⟩
 obtain ⟨f,hf'⟩:=Classical.axiomOfChoice each
 refine ⟨(List.range n).map f,?_,by simp,fun z hz => ?_⟩
 ·apply List.ext_getElem?
  intro i
  by_cases hi:i<n
  ·rw [(hf' i hi).1];simp [bv,hi]
  ·rw [List.getElem?_eq_none (by omega),List.getElem?_eq_none (by simp [bv];omega)]
 ·obtain ⟨i,hi,rfl⟩:=List.mem_map.1 hz
  exact (hf' i (List.mem_range.1 hi)).2
theorem yd {H:Type} {enc:TypeId × Value→H} {W:World} {v:Value} {d:DataW H} {p:List MemPlace} (h:DataW.Trod enc Tryz.prog W 0 (fun _=>true) true 22 v d p) : ∃ y,L32 y∧v = .agg (bv y).toArray:=by
 obtain ⟨fuel,hf⟩:=h
 obtain ⟨x,c,l,b⟩:=Fb Tryz.underlying22 (by kernel_rfl) hf
 refine ⟨x,⟨l,b⟩,?_⟩
 cases v with
 | agg cs=>simp only [Value.cells] at c;rw [←c]
 | _ =>
  exfalso
  have:=congrArg List.length c
  rw [ae,l] at this
  simp [Value.cells] at this
end Go.Proofs.YtajehiidpecknaaGreatDoor.Wi
namespace Go.Proofs.YtajehiidpecknaaGreatDoor.Wi
open Go Go.RowKit
set_option maxRecDepth 100000
def jo (xss:List (List Int)):Nat→List Int
 | 0=>[]
 | k+1=>jo xss k ++ mi xss k
theorem sZ (xss:List (List Int)) {j:Nat} : ∀ k,j≤k→(jo xss j).length≤(jo xss k).length
 | 0,h=>by
   obtain rfl:j=0:=by omega
   exact Nat.le_refl _
 | k+1,h=>by
  by_cases e:j=k+1
  ·subst e;exact Nat.le_refl _
  ·have:=sZ xss k (show j≤k by omega);simp only [jo,List.length_append];omega
def joA (xss:List (List Int)):List Int:=jo xss xss.length
theorem KQ {xss:List (List Int)} (h : ∀ m ∈ xss,Byt m) (k:Nat):Byt (mi xss k):=by
 by_cases hk:k<xss.length
 ·rw [Ke hk];exact h _ (List.getElem_mem hk)
 ·unfold mi;rw [List.getD_eq_getElem?_getD,List.getElem?_eq_none (by omega)];exact Byt.nil
theorem iG {xss:List (List Int)} (h : ∀ m ∈ xss,Byt m) : ∀ k,Byt (jo xss k)
 | 0=>Byt.nil
 | k+1=>(iG h k).append (KQ h k)
set_option maxHeartbeats 2000000 in
theorem iY (xss:List (List Int)) (J:List Int) (hJ:joA xss=J) (v:Value) (w:World) (hs:LL w v xss) (hL:J.length≤140737488355328) (hn:xss.length≤1000) :
  Calls Tryz.prog 41 #[v] w fun e w' => ∃ v',e = .returned v'∧Ow w.heap.size w' v' J∧Below w.heap.size w w':=by
 obtain ⟨ad,cap,rfl,hc,hx⟩:=hs
 have HX:Hid (xss = []∧(ad=none→cap=0) ∨ ∃ b o,ad=some ⟨b,o,none⟩∧b<w.heap.size ∧ ∀ i,i<xss.length → ∃ u,w.cell? ⟨b,o+i,none⟩=some u∧Sl w u (mi xss i)):=hx
 have HJ:Hid (jo xss xss.length=J):=hJ
 have HB:Hid (∀ k,k≤xss.length→(jo xss k).length≤140737488355328):=fun k hk=>Nat.le_trans (sZ xss _ hk) (by rw [show jo xss xss.length=J from hJ];exact hL)
 clear hx hL hc hJ
 go_enter Tryz.func41,Tryz.ntmps41
 go_wp2_with fail
 go_loopw [3,7] (fun ov i wr => ∃ k:Nat,k≤xss.length∧i = .int .i64 (k:Int)∧Ow w.heap.size wr ov (jo xss k)∧Below w.heap.size w wr) (fun _ i _=>xss.length - (intOf i).toNat)
 case atStart=>exact ⟨0,Nat.zero_le _,rfl,Ow.nil _ _,Below.refl _ _⟩
 case round =>
  obtain ⟨k,hkl,rfl,how,h4⟩:=hrel
  have H4:Hid (Below w.heap.size w wr):=h4
  have HO:Hid (Ow w.heap.size wr u3 (jo xss k)):=how
  clear h4 how
  by_cases hlt:k<xss.length
  ·rcases HX.out with ⟨rfl,_⟩ | ⟨b,o,rfl,hlb,hm⟩
   ·simp at hlt
   ·obtain ⟨u,hc0,hu⟩:=hm k hlt
    have c0:wr.cell? ⟨b,o+k,none⟩=some u:=(H4.out.cell (p:=⟨b,o+k,none⟩) hlb).trans hc0
    have HS:Hid (Sl wr u (mi xss k)):=hu.below H4.out (Nat.le_refl _)
    have HLK:Hid ((jo xss k).length+(mi xss k).length≤140737488355328):=by
     have h1:=HB.out (k+1) hlt
     rw [jo,List.length_append] at h1
     exact h1
    obtain ⟨ua,uc,hue,-,-⟩:=hu
    obtain ⟨ul,hul⟩ : ∃ n,(mi xss k).length=n:=⟨_,rfl⟩
    rw [hul] at hue
    subst hue
    clear hm hc0 hlb hul
    go_wp2_with (at_builtin;refine rT (B0:=w.heap.size) rfl _ _ rfl H4.out.size u3 (jo xss k) rfl HO.out _ rfl (mi xss k) HS.out HLK.out ?_;intro v1 w1 g1 g2 g3 g4;have O1:Hid (Ow w.heap.size w1 v1 (jo xss (k+1))):=g1;have B1:Hid (Below w.heap.size wr w1):=g3;clear g1 g2 g3 g4)
    exact ⟨⟨k+1,hlt,by go_num,O1.out,H4.out.trans B1.out⟩,by simp [intOf];omega⟩
  ·obtain rfl:k=xss.length:=by omega
   go_wp2_with fail
   go_ret
   exact ⟨_,rfl,by rw [←HJ.out];exact HO.out,H4.out⟩
theorem zX (w:World) (n:Nat) (h0:0<n) (hn:n≤140737488355328) :
  ∃ cap w',(Builtin.append_ #[23,3] 23 #[.slice none 0 0,.int .i64 (n:Int)]).run Tryz.prog w = .ok (.slice (some ⟨w.heap.size,0,none⟩) n cap) w'∧Ow w.heap.size w' (.slice (some ⟨w.heap.size,0,none⟩) 0 cap) []∧Below w.heap.size w w':=by
 obtain ⟨i,hi,hz,hs,hb⟩:=jg
 have hr:=Lib.run_append_nil_zeros (P:=Tryz.prog) w 23 3 23 5 i (.int .u8 0) .i64 .i64 Tryz.underlying23 Tryz.underlying3 hi hz n h0 (by rw [hs];omega) (by omega) (by rw [hb];omega)
 have hge:n≤grownCap w n 0 5:=grownCap_ge _ _ _ _
 have hcm:grownCap w n 0 5≤maxLen:=grownCap_le_maxLen w n 0 _ (by unfold maxLen;omega)
 have hh:(w.drew.alloc (.cells (Builtin.zeroCells (Value.int .u8 0).cells n ++ Builtin.zeroCells (Value.int .u8 0).cells (grownCap w n 0 5 - n)) 5)).heap[w.heap.size]? = some (.cells (Builtin.zeroCells (Value.int .u8 0).cells n ++ Builtin.zeroCells (Value.int .u8 0).cells (grownCap w n 0 5 - n)) 5 (0,0)):=by
  show (w.heap.push _)[w.heap.size]? = _;simp
 have hbl:Below w.heap.size w (w.drew.alloc (.cells (Builtin.zeroCells (Value.int .u8 0).cells n ++ Builtin.zeroCells (Value.int .u8 0).cells (grownCap w n 0 5 - n)) 5)):=((Below.refl _ w).drew).alloc (Nat.le_refl _) _
 have hzc : ∀ m,(Builtin.zeroCells (Value.int .u8 0).cells m).size=m:=fun m=>by simp [Builtin.zeroCells,show (Value.int .u8 0).cells.size=1 from rfl]
 refine ⟨_,_,hr,⟨rfl,.inr ⟨w.heap.size,_,_,rfl,Nat.le_refl _,hh,Nat.zero_le _,hcm,?_,rfl⟩⟩,hbl⟩
 rw [Array.size_append,hzc,hzc];omega
set_option maxHeartbeats 2000000 in
theorem Ee (n:Nat) (hn:n≤140737488355328) (w:World) :
  Calls Tryz.prog 63 #[.slice none 0 0,.int .i64 (n:Int)] w fun e w' => ∃ v',e = .returned v'∧Ow w.heap.size w' v' []∧Below w.heap.size w w':=by
 by_cases h0:n=0
 ·subst h0
  go_enter Tryz.func63,Tryz.ntmps63
  go_wp2_with fail
  go_ret
  exact ⟨_,rfl,Ow.nil _ _,Below.refl _ _⟩
 ·obtain ⟨cap,w1,hr,h1,h2⟩:=zX w n (by omega) hn
  have O1:Hid (Ow w.heap.size w1 (.slice (some ⟨w.heap.size,0,none⟩) 0 cap) []):=h1
  have B1:Hid (Below w.heap.size w w1):=h2
  have HR:Hid ((Builtin.append_ #[23,3] 23 #[.slice none 0 0,.int .i64 (n:Int)]).run Tryz.prog w = .ok (.slice (some ⟨w.heap.size,0,none⟩) n cap) w1):=hr
  have hneg : ¬ ((n:Int)<0):=by omega
  have hpos:(0:Int)<(n:Int):=by omega
  clear h1 h2 hr
  go_enter Tryz.func63,Tryz.ntmps63
  go_wp2_with (at_builtin;refine Lib.wpList_append_run _ rfl (.tmp 20) (.tmp 21) 23 3 rfl (.slice none 0 0) (.int .i64 (n:Int)) rfl rfl _ w1 HR.out ?_)
  go_ret
  exact ⟨_,rfl,O1.out,B1.out⟩
set_option maxHeartbeats 4000000 in
theorem fg (xss:List (List Int)) (J:List Int) (hJ:joA xss=J) (v:Value) (w:World) (hs:LL w v xss) (hL:J.length≤140737488355328) (hn:xss.length≤1000) :
  Calls Tryz.prog 23 #[v] w fun e w' => ∃ v',e = .returned v'∧Ow w.heap.size w' v' J∧Below w.heap.size w w':=by
 obtain ⟨ad,cap,rfl,hc,hx⟩:=hs
 have HX:Hid (xss = []∧(ad=none→cap=0) ∨ ∃ b o,ad=some ⟨b,o,none⟩∧b<w.heap.size ∧ ∀ i,i<xss.length → ∃ u,w.cell? ⟨b,o+i,none⟩=some u∧Sl w u (mi xss i)):=hx
 have HJ:Hid (jo xss xss.length=J):=hJ
 have HB:Hid (∀ k,k≤xss.length→(jo xss k).length≤140737488355328):=fun k hk=>Nat.le_trans (sZ xss _ hk) (by rw [show jo xss xss.length=J from hJ];exact hL)
 have HGR:Hid (∀ (m:Nat) (W:World),m≤140737488355328→Calls Tryz.prog 63 #[.slice none 0 0,.int .i64 (m:Int)] W fun e w' => ∃ v',e = .returned v'∧Ow W.heap.size w' v' []∧Below W.heap.size W w'):=fun m W h=>Ee m h W
 obtain ⟨n,hn'⟩ : ∃ n,xss.length=n:=⟨_,rfl⟩
 have HN:Hid (xss.length=n):=hn'
 rw [hn'] at hn hc ⊢
 clear hx hL hJ hn'
 go_enter Tryz.func23,Tryz.ntmps23
 go_wp2_with fail
 go_loopw [3,11] (fun sv i wr => ∃ k:Nat,k≤n∧i = .int .i64 (k:Int)∧sv = .int .i64 (((jo xss k).length:Nat):Int)∧wr=w) (fun _ i _=>n - (intOf i).toNat)
 case atStart=>exact ⟨0,Nat.zero_le _,rfl,rfl,rfl⟩
 case round =>
  obtain ⟨k,hkn,rfl,rfl,rfl⟩:=hrel
  by_cases hlt:k<n
  ·have HLT:Hid (k<n):=hlt
   rcases HX.out with ⟨rfl,_⟩ | ⟨b,o,rfl,hlb,hm⟩
   ·have:=HN.out;simp at this;omega
   ·obtain ⟨u,c1,hu⟩:=hm k (by rw [HN.out];exact hlt)
    obtain ⟨ua,uc,hue,-,-⟩:=hu
    obtain ⟨ul,hul⟩ : ∃ m,(mi xss k).length=m:=⟨_,rfl⟩
    obtain ⟨t,ht⟩ : ∃ t,(jo xss k).length=t:=⟨_,rfl⟩
    have HT1:Hid ((jo xss (k+1)).length=t+ul):=by show _=_;rw [jo,List.length_append,ht,hul]
    have hb9:t+ul≤140737488355328:=by have h1:=HB.out (k+1) (by rw [HN.out];exact hlt);have h3:=HT1.out;omega
    have hng : ¬ ((t:Int)+(ul:Int)<0):=by omega
    rw [hul] at hue
    rw [hue] at c1
    rw [ht]
    clear hm hlb hue hul ht
    go_wp2_with fail
    exact ⟨⟨k+1,HLT.out,by go_num,by rw [HT1.out];go_num,trivial⟩,by have:=HLT.out;simp [intOf];omega⟩
  ·obtain rfl:k=n:=by omega
   have ht9:J.length≤140737488355328:=by rw [←HJ.out];exact HB.out _ (Nat.le_refl _)
   obtain ⟨t,ht⟩ : ∃ t,J.length=t:=⟨_,rfl⟩
   rw [ht] at ht9
   have eT:(jo xss k).length=t:=by rw [←HN.out,HJ.out];exact ht
   have HG:Hid (Calls Tryz.prog 63 #[.slice none 0 0,.int .i64 (t:Int)] wr fun e w' => ∃ v',e = .returned v'∧Ow wr.heap.size w' v' []∧Below wr.heap.size wr w'):=HGR.out t wr ht9
   rw [eT]
   clear eT ht
   go_wp2_with (go_at_call 63;refine HG.out.mono ?_;rintro e w1 ⟨v1,rfl,g1,g2⟩;have O1:Hid (Ow wr.heap.size w1 v1 []):=g1;have B1:Hid (Below wr.heap.size wr w1):=g2;clear g1 g2)
   obtain ⟨W0,hW0⟩ : ∃ W,wr=W:=⟨_,rfl⟩
   rw [hW0] at HX O1 B1
   clear HGR HG
   go_loopw [6,27] (fun av i wx => ∃ j:Nat,j≤k∧i = .int .i64 (j:Int)∧Ow W0.heap.size wx av (jo xss j)∧Below W0.heap.size W0 wx) (fun _ i _=>k - (intOf i).toNat)
   case atStart=>exact ⟨0,Nat.zero_le _,rfl,O1.out,B1.out⟩
   case round =>
    obtain ⟨j,hjn,rfl,q1,q2⟩:=hrel
    have O2:Hid (Ow W0.heap.size wr u6 (jo xss j)):=q1
    have B2:Hid (Below W0.heap.size W0 wr):=q2
    clear q1 q2
    by_cases hlt:j<k
    ·have HLT:Hid (j<k):=hlt
     rcases HX.out with ⟨rfl,_⟩ | ⟨b,o,rfl,hlb,hm⟩
     ·have:=HN.out;simp at this;omega
     ·obtain ⟨u,c1,hu⟩:=hm j (by rw [HN.out];exact hlt)
      have c3:wr.cell? ⟨b,o+j,none⟩=some u:=(B2.out.cell (p:=⟨b,o+j,none⟩) hlb).trans c1
      have HS:Hid (Sl wr u (mi xss j)):=hu.below B2.out (Nat.le_refl _)
      have HLK:Hid ((jo xss j).length+(mi xss j).length≤140737488355328):=by
       have h1:=HB.out (j+1) (by rw [HN.out];exact hlt)
       rw [jo,List.length_append] at h1
       exact h1
      obtain ⟨ua,uc,hue,-,-⟩:=hu
      obtain ⟨ul,hul⟩ : ∃ m,(mi xss j).length=m:=⟨_,rfl⟩
      rw [hul] at hue
      subst hue
      clear hm c1 hlb hul hW0
      go_wp2_with (at_builtin;refine rT (B0:=W0.heap.size) rfl (.tmp 31) (.tmp 32) rfl B2.out.size u6 (jo xss j) rfl O2.out _ rfl (mi xss j) HS.out HLK.out ?_;intro v3 w3 g1 g2 g3 g4;have O3:Hid (Ow W0.heap.size w3 v3 (jo xss (j+1))):=g1;have B3:Hid (Below W0.heap.size W0 w3):=B2.out.trans g3;clear g1 g2 g3 g4)
      exact ⟨⟨j+1,HLT.out,by go_num,O3.out,B3.out⟩,by have:=HLT.out;simp [intOf];omega⟩
    ·obtain rfl:j=k:=by omega
     have O3:Hid (Ow W0.heap.size wr u6 J):=by have:=O2.out;rw [←HN.out,HJ.out] at this;exact this
     go_wp2_with fail
     go_ret
     subst hW0
     exact ⟨_,rfl,O3.out,B2.out⟩
end Go.Proofs.YtajehiidpecknaaGreatDoor.Wi
