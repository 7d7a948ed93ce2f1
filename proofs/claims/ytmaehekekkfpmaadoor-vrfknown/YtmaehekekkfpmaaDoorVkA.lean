/- Arrays of 32 bytes in walks; a region in whatever order. -/
import Derived.Test.YtmaehekekkfpmaaDoorWirA
import Derived.Test.YtmaehekekkfpmaaDoorRgnG
import Derived.Great.BuildSlice
import Derived.Deep.MidRow
set_option linter.unusedSimpArgs false
set_option linter.unusedVariables false
namespace Go.Proofs.YtmaehekekkfpmaaDoor.Wi
open Go Go.RowKit
set_option maxRecDepth 100000
structure L32 (x:List Int):Prop where
 len:x.length=32
 byt:Byt x
theorem zero_32 (w:World):(zeroValue 26).run Tryd.prog w = .ok (.agg (bv (List.replicate 32 0)).toArray) w:=by kernel_rfl
def z32:List Int:=List.replicate 32 0
theorem size32:(Tryd.prog.info? 26).map (·.size)=some 32:=by kernel_rfl
theorem size_l32 {x:List Int} (h:L32 x):(Tryd.prog.info? 26).map (·.size)=some (bv x).length:=by rw [bv_length,h.len];exact size32
theorem below_setCells {B b:Nat} (hb:B≤b) : ∀ (vs:List Value) (o:Nat) {w W:World},Below B w W→Below B w (W.setCells b o vs)
 | [],_,_,_,h=>h
 | v :: r,o,w,W,h=>by
  rw [World.setCells]
  exact below_setCells hb r (o+1) (h.trans ⟨rfl,rfl,rfl,by simp [World.setCell],fun k hk=>Below.heap_setCell _ _ _ k (by show k≠b;omega)⟩)
theorem there_of_row' {w:World} {g:Nat} {cs:Array Value} {t:TypeId} (hg:w.heap[g]? = some (.cells cs t (0,0))) (o n:Nat) (hn:o+n≤cs.size):w.there g o n:=fun j hj =>
 ⟨by rw [cell_of_row w g (o+j) cs t _ hg,Array.getElem?_eq_getElem (by omega)];rfl,frozen_of_row _ _ _ _ _ hg⟩
theorem bv_one' (x:List Int):(bv x).toArray.all (·.oneCell')=true:=all_oneCell_toArray (bv_one x)
theorem size_u8':(Tryd.prog.info? 5).map (·.size)=some 1:=by kernel_rfl
theorem cmp_items (x y:List Int) (hx:x.length=32) (hy:y.length=32) (d:Nat) (w:World) : ∀ is:List Nat,(∀ i ∈ is,i<32) →
  (Op.eqItems (d+1) 5 (Tryd.prog.cellsOf 5) (bv x).toArray (bv y).toArray is).run Tryd.prog w = .ok (is.all fun i=>gi x i == gi y i) w
 | [],_=>by simp [Op.eqItems]
 | i :: is,h=>by
  have hi:=h i (by simp)
  have hc:Tryd.prog.cellsOf 5=1:=by kernel_rfl
  have hp:Tryd.prog.plainKey 5=true:=by kernel_rfl
  have p1:=run_part_plain (P:=Tryd.prog) w hp (xs:=(bv x).toArray) (off:=i) (v := .int .u8 (gi x i)) (by rw [List.getElem?_toArray];exact bv_get x (by omega))
  have p2:=run_part_plain (P:=Tryd.prog) w hp (xs:=(bv y).toArray) (off:=i) (v := .int .u8 (gi y i)) (by rw [List.getElem?_toArray];exact bv_get y (by omega))
  have p3:=run_equalIn_int (P:=Tryd.prog) w d 5 .u8 .u8 (gi x i) (gi y i) Tryd.underlying5
  have ih:=cmp_items x y hx hy d w is (fun j hj=>h j (by simp [hj]))
  rw [hc] at ih
  simp only [Op.eqItems,hc,Nat.mul_one,Sem.run_bind,p1,p2,p3,Result.andThen_ok,List.all_cons]
  cases hq:(gi x i == gi y i) with
  | true=>simp only [Bool.not_true,Bool.false_eq_true,if_false,Bool.true_and];exact ih
  | false=>simp
theorem all_gi {x y:List Int} (hx:x.length=32) (hy:y.length=32):((List.range 32).all fun i=>gi x i == gi y i)=decide (x=y):=by
 by_cases h:x=y
 ·subst h;simp
 ·rw [decide_eq_false h,List.all_eq_false]
  refine Classical.byContradiction fun hn=>h ?_
  apply List.ext_getElem (by omega)
  intro i h1 h2
  have:gi x i=gi y i:=by
   refine Classical.byContradiction fun hne=>hn ⟨i,List.mem_range.2 (by omega),?_⟩
   simpa using hne
  simpa [gi,h1,h2] using this
theorem eq_32 {x y:List Int} (hx:L32 x) (hy:L32 y) (w:World):(Op.equalIn 10000 26 (.agg (bv x).toArray) (.agg (bv y).toArray)).run Tryd.prog w = .ok (decide (x=y)) w:=by
 obtain ⟨i,hi⟩ : ∃ i,Tryd.prog.info? 5=some i:=by
  cases h:Tryd.prog.info? 5 with
  | none=>have:=size_u8';rw [h] at this;cases this
  | some i=>exact ⟨i,rfl⟩
 have:=run_equalIn_array (P:=Tryd.prog) w 9999 (bv x).toArray (bv y).toArray Tryd.underlying26 hi
 rw [cmp_items x y hx.len hy.len 9998 w _ (fun i hi=>List.mem_range.1 hi),all_gi hx.len hy.len] at this
 exact this
theorem eqg_32 (op:BinOp) (x y:Operand) (a b:Array Value) (w:World):(eqGuard op 26 x y (.agg a) (.agg b)).run Tryd.prog w = .ok () w:=by
 have h:Tryd.prog.eqGuardType Tryd.prog.depth 26=false:=by kernel_rfl
 unfold eqGuard
 cases op <;> first | (simp [h,Result.andThen];done) | kernel_rfl
theorem neq_32 {x y:List Int} (hx:L32 x) (hy:L32 y) (w:World):(binOp .neq 26 (.agg (bv x).toArray) (.agg (bv y).toArray)).run Tryd.prog w = .ok (.bool (!decide (x=y))) w:=by
 have h:(Op.equalIn Op.maxDepth 26 (.agg (bv x).toArray) (.agg (bv y).toArray)).run Tryd.prog w = .ok (decide (x=y)) w:=eq_32 hx hy w
 simp [binOp,h,Op.equal,go_sem]
theorem there_new (w:World) {Z:Array Value} {t:TypeId} {n:Nat} (hn:n=Z.size):(w.alloc (.cells Z t)).there w.heap.size 0 n:=by
 have:(w.alloc (.cells Z t)).heap[w.heap.size]? = some (.cells Z t (0,0)):=by show (w.heap.push _)[w.heap.size]? = _;simp
 exact there_of_row' this 0 n (by omega)
theorem laid_row {w U:World} {Z:Array Value} {cs:List Value} (hz:cs.length=Z.size) (h0:0<cs.length) {t:TypeId} (e:(w.alloc (.cells Z t)).setCells w.heap.size 0 cs=U):U.rangeAt w.heap.size 0 cs∧Below w.heap.size w U∧w.heap.size<U.heap.size:=by
 have h1:U.rangeAt w.heap.size 0 cs:=by rw [←e];exact World.rangeAt_setCells_same _ _ _ _ (there_new w hz)
 have h2:Below w.heap.size w U:=by rw [←e];exact below_setCells (Nat.le_refl _) _ _ ((Below.refl _ w).alloc (Nat.le_refl _) _)
 refine ⟨h1,h2,?_⟩
 have:=h1 0 _ (List.getElem?_eq_getElem h0)
 unfold World.cell? at this
 cases hh:U.heap[w.heap.size]? with
 | none=>rw [show ((⟨w.heap.size,0+0,none⟩:Addr).block)=w.heap.size from rfl,hh] at this;cases this
 | some X=>exact (Array.getElem?_eq_some_iff.1 hh).1
theorem build_32 (w:World):(Instr.build 26 #[]).run Tryd.prog w = .ok (.agg (bv z32).toArray) w:=run_build w _ _ _ (by kernel_rfl)
theorem Below.tr' {a b c:World} (h1:Below a.heap.size a b) (h2:Below b.heap.size b c):Below a.heap.size a c:=h1.trans (h2.mono h1.size)
theorem range_below {w w':World} {b o:Nat} {cs:List Value} (h:w.rangeAt b o cs) (hb:Below w.heap.size w w') (hlt:b<w.heap.size):w'.rangeAt b o cs:=fun j v hj=>(hb.cell (p:=⟨b,o+j,none⟩) hlt).trans (h j v hj)
theorem load_g {P:Program} {ops:Array Oper} {rest:List Oper} {op:Oper} {a:Act} {w:World} {Q:Exit→Act→World→Prop} (hw:Region.wanted op (yielded ops a.tmps)=true) (ty:TypeId) (x:Operand) (ho:op.op = .load ty x)
  (b o:Nat) (hx:a.eval x = .pointer (some ⟨b,o,none⟩)) (cs:List Value) (d:TypeDesc) (hc:w.rangeAt b o cs)
  (hu:P.underlying ty=some d) (hd:d.isRow=true) (hi:(P.info? ty).map (·.size)=some cs.length)
  (h:wpList P ops Q rest (a.put op.dst (.agg cs.toArray)) w):wpList P ops Q (op :: rest) a w:=by
 unfold wpList
 rw [if_pos hw]
 exact .inl (wp_load_mid ty x ho b o hx cs d hc hu hd hi h)
theorem z32_l32:L32 z32:=⟨by simp [z32],fun z hz=>by simp [z32] at hz;omega⟩
theorem range_alloc (w:World) (l:List Value) (t:TypeId) (f:Nat × Nat):(w.alloc (.cells l.toArray t f)).rangeAt w.heap.size 0 l:=fun j v hj=>by
 rw [Nat.zero_add,cell_alloc];simpa using hj
theorem sl_range {w:World} {b o:Nat} {x:List Int} (h:L32 x) (hr:w.rangeAt b o (bv x)) (hb:b<w.heap.size):Sl w (.slice (some ⟨b,o,none⟩) 32 32) x :=
 ⟨_,32,by rw [h.len],by rw [h.len];omega,.inr ⟨b,o,rfl,hb,fun i hi=>hr i _ (bv_get x hi)⟩⟩
theorem there_keep {W W':World} {b o n:Nat} (h:W.there b o n) (e:W'.heap[b]? = W.heap[b]?):W'.there b o n:=fun j hj=>by
 obtain ⟨h1,h2⟩:=h j hj
 unfold World.cell? at h1 ⊢
 unfold World.frozen? at h2 ⊢
 rw [e];exact ⟨h1,h2⟩
theorem range_keep {W W':World} {b o:Nat} {cs:List Value} (h:W.rangeAt b o cs) (e:W'.heap[b]? = W.heap[b]?):W'.rangeAt b o cs:=fun j v hj=>by
 have:=h j v hj
 unfold World.cell? at this ⊢
 rw [e];exact this
theorem size_setC (b:Nat) : ∀ (vs:List Value) (o:Nat) (w:World),(w.setCells b o vs).heap.size=w.heap.size
 | [],_,_=>rfl
 | v :: r,o,w=>by
  rw [World.setCells,size_setC b r (o+1)]
  simp [World.setCell]
abbrev Al:=Nat × Nat × List Value × List Value
structure GI (U:World) (f:Nat→Option Value) (φ:Nat→Value→World→Prop) (L:List Al) (d:Nat→Bool) (V:Nat→Value) (W:World):Prop where
 be:Below U.heap.size U W
 kn : ∀ i v,f i=some v→d i=true→V i=v
 pr : ∀ i,d i=true→(∀ x ∈ L,d x.2.1=false)→φ i (V i) W
 pt : ∀ x ∈ L,d x.1=true → ∃ b,V x.1 = .pointer (some ⟨b,0,none⟩)∧U.heap.size≤b∧b<W.heap.size∧W.there b 0 x.2.2.2.length∧W.rangeAt b 0 (if d x.2.1=true then x.2.2.1 else x.2.2.2)
 ne : ∀ x ∈ L,∀ y ∈ L,x.1≠y.1→d x.1=true→d y.1=true→V x.1≠V y.1
theorem setd_ne {d:Nat→Bool} {i j:Nat} (h:j≠i):RG.setd d i j=d j:=by unfold RG.setd;rw [if_neg h]
theorem updV_ne {V:Nat→Value} {i j:Nat} {v:Value} (h:j≠i):RG.updV V i v j=V j:=by unfold RG.updV;rw [if_neg h]
theorem setd_self {d:Nat→Bool} {i:Nat} : RG.setd d i i=true:=by unfold RG.setd;rw [if_pos rfl]
theorem updV_self {V:Nat→Value} {i:Nat} {v:Value} : RG.updV V i v i=v:=by unfold RG.updV;rw [if_pos rfl]
theorem GI.start {U:World} {f:Nat→Option Value} {φ:Nat→Value→World→Prop} {L:List Al} {V:Nat→Value} : GI U f φ L (fun _=>false) V U.drew :=
 ⟨(Below.refl _ _).drew,(fun _ _ _ h=>by cases h),(fun _ h=>by cases h),(fun _ _ h=>by cases h),(fun _ _ _ _ _ h=>by cases h)⟩
theorem GI.step {U:World} {f:Nat→Option Value} {φ:Nat→Value→World→Prop} {L:List Al} {d:Nat→Bool} {V:Nat→Value} {W W':World} (h:GI U f φ L d V W) (mono : ∀ i v W W',φ i v W→Below W.heap.size W W'→φ i v W') (hb:Below W.heap.size W W') (i:Nat) (v:Value)
  (hns : ∀ x ∈ L,x.1≠i∧x.2.1≠i) (hk : ∀ u,f i=some u→v=u) (hφ:φ i v W'):GI U f φ L (RG.setd d i) (RG.updV V i v) W':=by
 refine ⟨h.be.trans (hb.mono h.be.size),fun j u hj hd => ?_,fun j hd hno => ?_,fun x hx hd => ?_,fun x hx y hy hxy h1 h2 => ?_⟩
 ·by_cases q:j=i
  ·subst q;rw [updV_self];exact hk u hj
  ·rw [setd_ne q] at hd;rw [updV_ne q];exact h.kn j u hj hd
 ·by_cases q:j=i
  ·subst q;rw [updV_self];exact hφ
  ·rw [setd_ne q] at hd;rw [updV_ne q]
   exact mono _ _ _ _ (h.pr j hd (fun x hx=>by have:=hno x hx;rwa [setd_ne (hns x hx).2] at this)) hb
 ·obtain ⟨n1,n2⟩:=hns x hx
  rw [setd_ne n1] at hd
  rw [updV_ne n1,setd_ne n2]
  obtain ⟨b,q1,q2,q3,q4,q5⟩:=h.pt x hx hd
  exact ⟨b,q1,q2,Nat.lt_of_lt_of_le q3 hb.size,there_keep q4 (hb.block b q3),range_keep q5 (hb.block b q3)⟩
 ·rw [setd_ne (hns x hx).1] at h1
  rw [setd_ne (hns y hy).1] at h2
  rw [updV_ne (hns x hx).1,updV_ne (hns y hy).1]
  exact h.ne x hx y hy hxy h1 h2
theorem GI.alloc {U:World} {f:Nat→Option Value} {φ:Nat→Value→World→Prop} {L:List Al} {d:Nat→Bool} {V:Nat→Value} {W:World} (h:GI U f φ L d V W) (mono : ∀ i v W W',φ i v W→Below W.heap.size W W'→φ i v W') (x:Al) (hx:x ∈ L) (t:TypeId) (hst:d x.2.1=false)
  (huq : ∀ y ∈ L,y.1=x.1→y=x) (hns : ∀ y ∈ L,y.2.1≠x.1) (hfn:f x.1=none) (hφ : ∀ v W',φ x.1 v W') :
  GI U f φ L (RG.setd d x.1) (RG.updV V x.1 (.pointer (some ⟨W.heap.size,0,none⟩))) (W.alloc (.cells x.2.2.2.toArray t)):=by
 have hb:Below W.heap.size W (W.alloc (.cells x.2.2.2.toArray t)):=(Below.refl _ W).alloc (Nat.le_refl _) _
 have hh:(W.alloc (.cells x.2.2.2.toArray t)).heap[W.heap.size]? = some (.cells x.2.2.2.toArray t (0,0)):=by show (W.heap.push _)[W.heap.size]? = _;simp
 have old : ∀ y ∈ L,y.1≠x.1→d y.1=true → ∃ b,V y.1 = .pointer (some ⟨b,0,none⟩)∧b<W.heap.size:=fun y hy _ hd=>by
  obtain ⟨b,q1,-,q3,-,-⟩:=h.pt y hy hd;exact ⟨b,q1,q3⟩
 refine ⟨h.be.trans (hb.mono h.be.size),fun j u hj hd => ?_,fun j hd hno => ?_,fun y hy hd => ?_,fun y hy z hz hyz h1 h2 => ?_⟩
 ·by_cases q:j=x.1
  ·subst q;rw [hfn] at hj;cases hj
  ·rw [setd_ne q] at hd;rw [updV_ne q];exact h.kn j u hj hd
 ·by_cases q:j=x.1
  ·subst q;exact hφ _ _
  ·rw [setd_ne q] at hd;rw [updV_ne q]
   exact mono _ _ _ _ (h.pr j hd (fun y hy=>by have:=hno y hy;rwa [setd_ne (hns y hy)] at this)) hb
 ·by_cases q:y.1=x.1
  ·obtain rfl:=huq y hy q
   rw [updV_self,setd_ne (hns y hy),hst,if_neg (by decide)]
   exact ⟨W.heap.size,rfl,h.be.size,by simp,there_of_row' hh 0 _ (by simp),range_alloc W _ t (0,0)⟩
  ·rw [setd_ne q] at hd
   rw [updV_ne q,setd_ne (hns y hy)]
   obtain ⟨b,q1,q2,q3,q4,q5⟩:=h.pt y hy hd
   exact ⟨b,q1,q2,Nat.lt_of_lt_of_le q3 hb.size,there_keep q4 (hb.block b q3),range_keep q5 (hb.block b q3)⟩
 ·by_cases q:y.1=x.1
  ·have q':z.1≠x.1:=fun e=>hyz (q.trans e.symm)
   rw [setd_ne q'] at h2
   obtain ⟨b,e,hl⟩:=old z hz q' h2
   rw [q,updV_self,updV_ne q',e]
   intro he
   simp only [Value.pointer.injEq,Option.some.injEq,Addr.mk.injEq,and_true] at he
   omega
  ·rw [setd_ne q] at h1
   by_cases q':z.1=x.1
   ·obtain ⟨b,e,hl⟩:=old y hy q h1
    rw [q',updV_self,updV_ne q,e]
    intro he
    simp only [Value.pointer.injEq,Option.some.injEq,Addr.mk.injEq,and_true] at he
    omega
   ·rw [setd_ne q'] at h2
    rw [updV_ne q,updV_ne q']
    exact h.ne y hy z hz hyz h1 h2
theorem GI.store {U:World} {f:Nat→Option Value} {φ:Nat→Value→World→Prop} {L:List Al} {d:Nat→Bool} {V:Nat→Value} {W:World} (h:GI U f φ L d V W) (x:Al) (hx:x ∈ L) (hd0:d x.1=true) {b:Nat} (hV:V x.1 = .pointer (some ⟨b,0,none⟩)) (v:Value)
  (huq : ∀ y ∈ L,y.2.1=x.2.1→y=x) (hns : ∀ y ∈ L,y.1≠x.2.1) (hfn:f x.2.1=none) (hlen:x.2.2.1.length=x.2.2.2.length) (hone : ∀ y ∈ L,y≠x→y.1≠x.1) :
  GI U f φ L (RG.setd d x.2.1) (RG.updV V x.2.1 v) (W.setCells b 0 x.2.2.1):=by
 obtain ⟨b',e,p1,p2,p3,p4⟩:=h.pt x hx hd0
 rw [hV] at e
 obtain rfl:b=b':=by simpa using e
 refine ⟨below_setCells p1 _ _ h.be,fun j u hj hd => ?_,fun j hd hno => ?_,fun y hy hd => ?_,fun y hy z hz hyz h1 h2 => ?_⟩
 ·by_cases q:j=x.2.1
  ·subst q;rw [hfn] at hj;cases hj
  ·rw [setd_ne q] at hd;rw [updV_ne q];exact h.kn j u hj hd
 ·have:=hno x hx;rw [setd_self] at this;cases this
 ·rw [setd_ne (hns y hy)] at hd
  rw [updV_ne (hns y hy)]
  by_cases q:y=x
  ·subst q
   rw [setd_self,if_pos rfl]
   refine ⟨b,hV,p1,by rw [size_setC];exact p2,?_,?_⟩
   ·exact World.there_setCells p3 _ _ _
   ·exact World.rangeAt_setCells_same _ _ _ _ (by rw [hlen];exact p3)
  ·have q2:y.2.1≠x.2.1:=fun e=>q (huq y hy e)
   rw [setd_ne q2]
   obtain ⟨b2,r1,r2,r3,r4,r5⟩:=h.pt y hy hd
   have hne:b2≠b:=fun e=>h.ne y hy x hx (hone y hy q) hd hd0 (by rw [r1,hV,e])
   exact ⟨b2,r1,r2,by rw [size_setC];exact r3,World.there_setCells r4 _ _ _,World.rangeAt_setCells_apart r5 _ _ _ (.inl hne)⟩
 ·rw [setd_ne (hns y hy)] at h1
  rw [setd_ne (hns z hz)] at h2
  rw [updV_ne (hns y hy),updV_ne (hns z hz)]
  exact h.ne y hy z hz hyz h1 h2
section
def GL (U:World) (f:Nat→Option Value) (φ:Nat→Value→World→Prop) (L:List Al) (s b o:Nat) (cs:List Value) (d:Nat→Bool) (V:Nat→Value) (W:World):Prop :=
 (d s=false∧GI U f φ L d V W)∨(d s=true∧(∀ i v,f i=some v→d i=true→V i=v) ∧ ∃ W0,Below U.heap.size U W0∧W=W0.setCells b o cs)
variable {U:World} {f:Nat→Option Value} {φ:Nat→Value→World→Prop} {L:List Al} {s b o:Nat} {cs:List Value}
theorem GL.start {V:Nat→Value} : GL U f φ L s b o cs (fun _=>false) V U.drew := .inl ⟨rfl,GI.start⟩
variable {P:Program} {ops:Array Oper} {Q:Exit→Act→World→Prop} {a0:Act}
theorem GL.ob {i:Nat} (hs:(RU.px ops s).contains i=true) (h : ∀ a w d V,GI U f φ L d V w→d i=false→(∀ p,(RU.px ops i).contains p=true→d p=true)→(∀ j,(RU.px ops j).contains i=true→d j=false)→(∀ t,RU.early ops i t=true→a.eval (.tmp t)=a0.eval (.tmp t))→(∀ p t,RU.predB ops i p t=true→a.eval (.tmp t)=V p) →
  wpOp P ops Q i (fun a' w' => ∃ v,a'=a.put ((ops[i]?).bind (·.dst)) v∧GI U f φ L (RG.setd d i) (RG.updV V i v) w') a w):RG.Ob P ops Q a0 (GL U f φ L s b o cs) i:=by
 intro a w d V hG hd hpx hbk hf hp
 have hsf:d s=false:=hbk s hs
 rcases hG with ⟨-,hI⟩ | ⟨hbad,-⟩
 ·refine wpOp_mono (fun a' w' ⟨v,e,q⟩=>⟨v,e,.inl ⟨?_,q⟩⟩) (h a w d V hI hd hpx hbk hf hp)
  unfold RG.setd
  rw [if_neg (fun e => ?_)]
  ·exact hsf
  ·subst e
   have:=hpx s hs
   rw [hsf] at this;cases this
 ·rw [hsf] at hbad;cases hbad
theorem GL.obs (h : ∀ a w d V,GI U f φ L d V w→d s=false→(∀ p,(RU.px ops s).contains p=true→d p=true)→(∀ j,(RU.px ops j).contains s=true→d j=false)→(∀ t,RU.early ops s t=true→a.eval (.tmp t)=a0.eval (.tmp t))→(∀ p t,RU.predB ops s p t=true→a.eval (.tmp t)=V p) →
  wpOp P ops Q s (fun a' w' => ∃ v,a'=a.put ((ops[s]?).bind (·.dst)) v∧GL U f φ L s b o cs (RG.setd d s) (RG.updV V s v) w') a w):RG.Ob P ops Q a0 (GL U f φ L s b o cs) s:=by
 intro a w d V hG hd hpx hbk hf hp
 rcases hG with ⟨-,hI⟩ | ⟨hbad,-⟩
 ·exact h a w d V hI hd hpx hbk hf hp
 ·rw [hd] at hbad;cases hbad
theorem GL.stored {d:Nat→Bool} {V:Nat→Value} {W:World} (h:GI U f φ L d V W) (hfn:f s=none) (v:Value):GL U f φ L s b o cs (RG.setd d s) (RG.updV V s v) (W.setCells b o cs):=by
 refine .inr ⟨setd_self,fun i u hi hd => ?_,W,h.be,rfl⟩
 by_cases q:i=s
 ·subst q;rw [hfn] at hi;cases hi
 ·rw [setd_ne q] at hd;rw [updV_ne q];exact h.kn i u hi hd
theorem GL.oba {i:Nat} (hs:(RU.px ops i).contains s=true) (h : ∀ a w d V,(∀ i v,f i=some v→d i=true→V i=v)→d i=false→(∀ p,(RU.px ops i).contains p=true→d p=true)→(∀ t,RU.early ops i t=true→a.eval (.tmp t)=a0.eval (.tmp t))→(∀ p t,RU.predB ops i p t=true→a.eval (.tmp t)=V p) →
  (∀ v,(∀ u,f i=some u→v=u)→GL U f φ L s b o cs (RG.setd d i) (RG.updV V i v) w) →
  wpOp P ops Q i (fun a' w' => ∃ v,a'=a.put ((ops[i]?).bind (·.dst)) v∧GL U f φ L s b o cs (RG.setd d i) (RG.updV V i v) w') a w):RG.Ob P ops Q a0 (GL U f φ L s b o cs) i:=by
 intro a w d V hG hd hpx hbk hf hp
 have hst:=hpx s hs
 rcases hG with ⟨hbad,-⟩ | ⟨-,hK,W0,hB,hW⟩
 ·rw [hst] at hbad;cases hbad
 ·refine h a w d V hK hd hpx hf hp (fun v hv => .inr ⟨?_,fun j u hj hdj => ?_,W0,hB,hW⟩)
  ·unfold RG.setd;split
   ·rfl
   ·exact hst
  ·by_cases q:j=i
   ·subst q;rw [updV_self];exact hv u hj
   ·rw [setd_ne q] at hdj;rw [updV_ne q];exact hK j u hj hdj
theorem GL.fin {d:Nat→Bool} {V:Nat→Value} {W:World} (h:GL U f φ L s b o cs d V W) (hd:d s=true):(∀ i v,f i=some v→d i=true→V i=v) ∧ ∃ W0,Below U.heap.size U W0∧W=W0.setCells b o cs:=by
 rcases h with ⟨hbad,-⟩ | ⟨-,hK,W0,hB,hW⟩
 ·rw [hd] at hbad;cases hbad
 ·exact ⟨hK,W0,hB,hW⟩
end
end Go.Proofs.YtmaehekekkfpmaaDoor.Wi
