import Derived.Test.YtajehiidpecknaaGreatDoorMemC
set_option linter.all false
namespace Go.Proofs.YtajehiidpecknaaGreatDoor
open Go Go.RowKit
variable {gl:List Nat} {r₀ r:Ren} {w₀ w:World} {a A:Act} {m:Mem} {P:Program} {X:Cx}
def kind (X:Cx) (o:Oper):Nat :=
 match o.op with
 | .alloc _=>2
 | .box _ _=>2
 | .buildSlice _ _ _=>2
 | .load _ _=>1
 | .store _ _ _=>3
 | .call ⟨.value (.func f),_,_⟩=>if X.wf f then 3 else if X.pf f then 0 else 1
 | .call ⟨.builtin .copy,_,_⟩=>3
 | _=>0
theorem qt {sym:Bool} {o:Oper} {ev:Operand→Value} {ps:List Prop} {v:Value} {m':Mem} (h:spure P sym o ev m=some (ps,v,m')):m'=m ∧ ∀ m2,spure P sym o ev m2=some (ps,v,m2):=by
 unfold spure at h ⊢
 split at h
 ·simp at h
 ·split at h
  ·rename_i hall
   split at h
   ·rename_i qs v' hz
    simp only [qG,qH] at h
    obtain ⟨rfl,rfl,rfl⟩:=h
    exact ⟨rfl,fun m2=>by simp only [hall,hz,if_true]⟩
   ·rename_i hz
    split at h
    ·rename_i v' hq
     simp only [qG,qH] at h
     obtain ⟨rfl,rfl,rfl⟩:=h
     exact ⟨rfl,fun m2=>by simp only [hall,hz,hq,if_true]⟩
    ·rename_i hq
     split at h
     ·rename_i v' hp
      split at h
      ·rename_i hf
       simp only [qG,qH] at h
       obtain ⟨rfl,rfl,rfl⟩:=h
       exact ⟨rfl,fun m2=>by simp only [hall,hz,hq,hp,hf,if_true]⟩
      ·simp at h
     ·simp at h
  ·simp at h
theorem tD {i b:Nat} {B:Blk} (hi:m[i]? = some none) (hb:bn m b=some B):b≠i:=by
 rintro rfl
 rw [k9 hi] at hb;cases hb
theorem dP {i b:Nat} {x:Option Blk} (h:b≠i):bn (m.set i x) b=bn m b:=by
 rw [gz,if_neg (fun e=>h e.1)]
theorem vk {sym:Bool} {t b o i:Nat} {q:List Prop × Value} (B:Blk) (hi:m[i]? = some none) (h:sloadX P sym t b o m=some q):sloadX P sym t b o (m.set i (some B))=some q:=by
 obtain ⟨B',hb⟩:=wJ h
 rw [lZ (dP (tD hi hb))];exact h
theorem Cb (hX:X.OkF P r₀ w₀) {id:Nat} {o:Oper} {ev:Operand→Value} {ps:List Prop} {v:Value} {m':Mem} (hk:kind X o=0) (h:sop P X id o ev m=some (ps,v,m')):m'=m ∧ ∀ m2,sop P X id o ev m2=some (ps,v,m2):=by
 unfold sop at h ⊢
 unfold kind at hk
 split at h <;> rename_i ho <;> simp only [ho] at hk ⊢
 case h_1 =>
  split at h
  ·simp only [qG,qH] at h;obtain ⟨rfl,rfl,rfl⟩:=h;exact ⟨rfl,fun m2=>by simp_all⟩
  ·simp at h
 case h_2 =>
  split at h
  ·simp only [qG,qH] at h;obtain ⟨rfl,rfl,rfl⟩:=h;exact ⟨rfl,fun m2=>by simp_all⟩
  ·simp at h
 case h_3=>omega
 case h_4=>omega
 case h_5=>omega
 case h_6=>omega
 case h_7 t x i =>
  split at h
  ·rename_i hx
   cases hl:sindex P X.sym t (ev x) (ev i) with
   | none=>simp [hl] at h
   | some u=>simp only [hl,YO,qG,qH] at h;obtain ⟨rfl,rfl,rfl⟩:=h;exact ⟨rfl,fun m2=>by simp [hx]⟩
  ·simp at h
 case h_8 t x i =>
  split at h
  ·rename_i hx
   cases hl:sfield P t (ev x) i with
   | none=>simp [hl] at h
   | some u=>simp only [hl,YO,qG,qH] at h;obtain ⟨rfl,rfl,rfl⟩:=h;exact ⟨rfl,fun m2=>by simp [hx]⟩
  ·simp at h
 case h_9 x =>
  split at h
  ·rename_i hx
   split at h
   ·rename_i p he
    simp only [qG,qH] at h;obtain ⟨rfl,rfl,rfl⟩:=h
    exact ⟨rfl,fun m2=>by simp [hx]⟩
   ·rename_i hne
    obtain ⟨h1,h2⟩:=qt h
    exact ⟨h1,fun m2=>by rw [if_pos hx];exact h2 m2⟩
  ·simp at h
 case h_10 t x lo hi =>
  split at h
  ·rename_i hx
   cases hl:ssliceX P X.sym t (ev x) (lo.map ev) (hi.map ev) with
   | none=>simp [hl] at h
   | some u=>simp only [hl,YO,qG,qH] at h;obtain ⟨rfl,rfl,rfl⟩:=h;exact ⟨rfl,fun m2=>by simp [hx]⟩
  ·simp at h
 case h_11 f args ts =>
  have hw:X.wf f=false:=by
   cases hw:X.wf f
   ·rfl
   ·simp [hw] at hk
  simp only [hw,Bool.false_eq_true,if_false] at hk h ⊢
  split at h
  ·rename_i hx
   cases hl:X.C f (args.toList.map ev) m with
   | none=>simp [hl] at h
   | some u =>
    simp only [hl,YO,qG,qH] at h;obtain ⟨rfl,rfl,rfl⟩:=h
    have hp:X.pf f=true:=by
     cases hp:X.pf f
     ·simp [hp] at hk
     ·rfl
    exact ⟨rfl,fun m2=>by rw [hX.pure f hp _ m2 m];simp [hx,hl]⟩
  ·simp at h
 case h_12=>omega
 case h_13 args ts =>
  split at h
  ·rename_i x t hargs hts
   split at h
   ·rename_i hx
    cases hl:slen P t (ev x) with
    | none=>simp [hl] at h
    | some u=>simp only [hl,YO,qG,qH] at h;obtain ⟨rfl,rfl,rfl⟩:=h;exact ⟨rfl,fun m2=>by simp [hx]⟩
   ·simp at h
  ·simp at h
 case h_14=>omega
 case h_15 t x =>
  split at h
  ·rename_i hx
   cases hl:sarrp P t (ev x) with
   | none=>simp [hl] at h
   | some u=>simp only [hl,YO,qG,qH] at h;obtain ⟨rfl,rfl,rfl⟩:=h;exact ⟨rfl,fun m2=>by simp [hx]⟩
  ·simp at h
 case h_16 =>
  obtain ⟨h1,h2⟩:=qt h
  exact ⟨h1,h2⟩
theorem Cp (hX:X.OkF P r₀ w₀) {id:Nat} {o:Oper} {ev:Operand→Value} {ps:List Prop} {v:Value} {m':Mem} (hk:kind X o=1) (h:sop P X id o ev m=some (ps,v,m')):m'=m ∧ ∀ i B,m[i]? = some none→sop P X id o ev (m.set i (some B))=some (ps,v,m.set i (some B)):=by
 unfold sop at h ⊢
 unfold kind at hk
 split at h <;> rename_i ho <;> simp only [ho] at hk ⊢
 case h_1=>omega
 case h_2=>omega
 case h_3=>omega
 case h_4=>omega
 case h_6=>omega
 case h_7=>omega
 case h_8=>omega
 case h_9=>omega
 case h_10=>omega
 case h_5 t x =>
  split at h
  ·rename_i hx
   split at h
   ·rename_i b o' he
    cases hl:sloadX P X.sym t b o' m with
    | none=>simp [hl] at h
    | some u=>simp only [hl,YO,qG,qH] at h;obtain ⟨rfl,rfl,rfl⟩:=h;exact ⟨rfl,fun i B hi=>by simp [hx,vk B hi hl]⟩
   ·simp at h
  ·simp at h
 case h_11 f args ts =>
  have hw:X.wf f=false:=by
   cases hw:X.wf f
   ·rfl
   ·simp [hw] at hk
  simp only [hw,Bool.false_eq_true,if_false] at hk h ⊢
  split at h
  ·rename_i hx
   cases hl:X.C f (args.toList.map ev) m with
   | none=>simp [hl] at h
   | some u =>
    simp only [hl,YO,qG,qH] at h;obtain ⟨rfl,rfl,rfl⟩:=h
    exact ⟨rfl,fun i B hi=>by rw [hX.more f _ _ _ i B hi hl];simp [hx]⟩
  ·simp at h
 case h_12=>omega
 case h_13=>omega
 case h_14=>omega
 case h_15=>omega
 case h_16=>omega
theorem BV {id:Nat} {o:Oper} {ev:Operand→Value} {ps:List Prop} {v:Value} {m':Mem} (hk:kind X o=2) (h:sop P X id o ev m=some (ps,v,m')) :
  m[id]? = some none ∧ ∃ B,m'=m.set id (some B) ∧ ∀ m2:Mem,m2[id]? = some none→sop P X id o ev m2=some (ps,v,m2.set id (some B)):=by
 unfold sop at h ⊢
 unfold kind at hk
 split at h <;> rename_i ho <;> simp only [ho] at hk ⊢
 case h_1=>omega
 case h_2=>omega
 case h_3 =>
  split at h
  ·rename_i i hi hid
   split at h
   ·rename_i z hz
    split at h
    ·rename_i hf
     simp only [qG,qH] at h
     obtain ⟨rfl,rfl,rfl⟩:=h
     exact ⟨hid,_,rfl,fun m2 h2=>by simp [hi,h2,hz,hf]⟩
    ·simp at h
   ·simp at h
  ·simp at h
 case h_4 =>
  split at h
  ·rename_i hid
   split at h
   ·rename_i hx
    simp only [qG,qH] at h
    obtain ⟨rfl,rfl,rfl⟩:=h
    exact ⟨hid,_,rfl,fun m2 h2=>by simp [h2,hx]⟩
   ·simp at h
  ·simp at h
 case h_5=>omega
 case h_6=>omega
 case h_7=>omega
 case h_8=>omega
 case h_9=>omega
 case h_10=>omega
 case h_11 =>
  split at hk
  ·omega
  ·split at hk <;> omega
 case h_12=>omega
 case h_13=>omega
 case h_14 t len parts =>
  unfold sbuild at h ⊢
  split at h
  ·rename_i e hu hid
   split at h
   ·rename_i i hi
    split at h
    ·rename_i hc
     simp only [qG,qH] at h
     obtain ⟨rfl,rfl,rfl⟩:=h
     exact ⟨hid,_,rfl,fun m2 h2=>by simp only [hu,h2,hi,if_pos hc]⟩
    ·simp at h
   ·simp at h
  ·simp at h
 case h_15=>omega
 case h_16=>omega
theorem Da (hX:X.OkF P r₀ w₀) {id:Nat} {o:Oper} {ev:Operand→Value} {ps:List Prop} {v:Value} {m':Mem} (hk:kind X o=0) (h:sopD P X id o ev m=some (ps,v,m')):m'=m ∧ ∀ m2,sopD P X id o ev m2=some (ps,v,m2):=by
 obtain ⟨qs,u,h1,rfl,rfl⟩:=du h
 obtain ⟨e,h2⟩:=Cb hX hk h1
 exact ⟨e,fun m2=>kK (h2 m2)⟩
theorem Jk (hX:X.OkF P r₀ w₀) {id:Nat} {o:Oper} {ev:Operand→Value} {ps:List Prop} {v:Value} {m':Mem} (hk:kind X o=1) (h:sopD P X id o ev m=some (ps,v,m')):m'=m ∧ ∀ i B,m[i]? = some none→sopD P X id o ev (m.set i (some B))=some (ps,v,m.set i (some B)):=by
 obtain ⟨qs,u,h1,rfl,rfl⟩:=du h
 obtain ⟨e,h2⟩:=Cp hX hk h1
 exact ⟨e,fun i B hi=>kK (h2 i B hi)⟩
theorem Bn {id:Nat} {o:Oper} {ev:Operand→Value} {ps:List Prop} {v:Value} {m':Mem} (hk:kind X o=2) (h:sopD P X id o ev m=some (ps,v,m')) :
  m[id]? = some none ∧ ∃ B,m'=m.set id (some B) ∧ ∀ m2:Mem,m2[id]? = some none→sopD P X id o ev m2=some (ps,v,m2.set id (some B)):=by
 obtain ⟨qs,u,h1,rfl,rfl⟩:=du h
 obtain ⟨e,B,h2,h3⟩:=BV hk h1
 exact ⟨e,B,h2,fun m2 hm=>kK (h3 m2 hm)⟩
def blk:Value→Option Nat
 | .pointer (some p)=>some p.block
 | .slice (some p) _ _=>some p.block
 | _=>none
def makes (o:Oper):Bool :=
 match o.op with
 | .alloc _=>true
 | .box _ _=>true
 | .buildSlice _ _ _=>true
 | _=>false
def jT (h0:Nat) (ops:Array Oper) (i:Nat):Nat:=h0+((ops.toList.take i).filter makes).length
def wr (ops:Array Oper) (x:Nat):List (Oper × Nat):=ops.toList.zipIdx.filter fun p=>p.1.dst == some x
def addrOf (o:Oper):Option Operand :=
 match o.op with
 | .indexAddr _ y _=>some y
 | .fieldAddr _ y _=>some y
 | .nilCheck y=>some y
 | .move y=>some y
 | .sliceToArrayPointer _ y=>some y
 | .slice _ y _ _ none=>some y
 | _=>none
def rootN (a₀:Act) (ops:Array Oper) (h0:Nat):Nat→Nat→Option Nat
 | 0,_=>none
 | n+1,x=>match wr ops x with
  | []=>blk (a₀.eval (.tmp x))
  | [(o,k)]=>if (blk (a₀.eval (.tmp x))).isSome then none else if makes o then some (jT h0 ops k) else match addrOf o with
   | some (.tmp y)=>rootN a₀ ops h0 n y
   | some (.global g)=>some g
   | _=>none
  | _=>none
def rootB (a₀:Act) (ops:Array Oper) (h0:Nat) (x:Operand):Option Nat :=
 match x with
 | .tmp t=>rootN a₀ ops h0 6 t
 | .global g=>some g
 | _=>none
def farApart (a₀:Act) (ops:Array Oper) (h0:Nat) (oi oj:Oper):Bool :=
 match oi.op,oj.op with
 | .load _ x,.store _ y _=>match rootB a₀ ops h0 x,rootB a₀ ops h0 y with
  | some b,some b'=>b != b'
  | _,_=>false
 | _,_=>false
def notAt (a₀:Act) (ops:Array Oper) (h0 id:Nat) (oj:Oper):Bool :=
 match oj.op with
 | .load _ y=>match rootB a₀ ops h0 y with
  | some b=>b != id
  | none=>false
 | .store _ y _=>match rootB a₀ ops h0 y with
  | some b=>b != id
  | none=>false
 | _=>false
structure Keeps (a₀:Act) (ops:Array Oper) (h0:Nat) (a:Act):Prop where
 same : ∀ t,wr ops t = []→a.eval (.tmp t)=a₀.eval (.tmp t)
 roots : ∀ n x b,rootN a₀ ops h0 n x=some b → ∀ b',blk (a.eval (.tmp x))=some b'→b'=b
theorem Keeps.root {a₀:Act} {ops:Array Oper} {h0:Nat} {a:Act} (h:Keeps a₀ ops h0 a) (x:Operand) (b:Nat) (hb:rootB a₀ ops h0 x=some b) (b':Nat) (hb':blk (a.eval x)=some b'):b'=b:=by
 cases x with
 | tmp t=>exact h.roots 6 t b hb b' hb'
 | global g=>simp only [rootB,qG] at hb;subst hb;simp [Act.eval,blk] at hb';exact hb'.symm
 | const v=>simp [rootB] at hb
 | func f=>simp [rootB] at hb
def oJ (X:Cx) (a₀:Act) (ops:Array Oper) (h0 i j:Nat) (oi oj:Oper):Bool :=
 kind X oi == 0 || (kind X oi == 1 && (decide (kind X oj≤2) || farApart a₀ ops h0 oi oj)) ||
 (kind X oi == 2 && (kind X oj == 0 || (kind X oj == 2 && jT h0 ops i != jT h0 ops j) || notAt a₀ ops h0 (jT h0 ops i) oj))
theorem pV {sym:Bool} {t b o b':Nat} {B:Option Blk} (h:b'≠b):sloadX P sym t b o (m.set b' B)=sloadX P sym t b o m:=lZ (dP (Ne.symm h))
theorem vL {sym:Bool} {t b o b':Nat} {v:Value} {B:Option Blk} {m':Mem} {ps:List Prop} (h:b'≠b) (hs:sstoreX P sym t b o v (m.set b' B)=some (ps,m')) : ∃ x,m'=(m.set b' B).set b x∧sstoreX P sym t b o v m=some (ps,m.set b x):=by
 unfold sstoreX at hs ⊢
 rw [dP (Ne.symm h)] at hs
 split at hs
 ·split at hs
  ·rename_i hz
   simp only [qG,qH] at hs
   exact ⟨_,hs.2.symm,by rw [if_pos hz,←hs.1]⟩
  ·simp at hs
 ·unfold sstore at hs ⊢
  rw [dP (Ne.symm h)] at hs
  split at hs
  ·rename_i B' d n h1 h2
   split at hs
   ·rename_i hc
    simp only [YO,qG,qH] at hs
    exact ⟨_,hs.2.symm,by simp only [if_pos hc,YO,hs.1]⟩
   ·simp at hs
  ·simp at hs
theorem IJ {a₀:Act} {ops:Array Oper} {h0 idi idj:Nat} {oi oj:Oper} (hE:Keeps a₀ ops h0 a) (hf:farApart a₀ ops h0 oi oj=true) {pi pj:List Prop} {vi vj:Value} {mj:Mem}
  (hi:sop P X idi oi a.eval m=some (pi,vi,m)) (hj:sop P X idj oj a.eval m=some (pj,vj,mj)):sop P X idi oi a.eval mj=some (pi,vi,mj):=by
 unfold farApart at hf
 split at hf
 ·rename_i t x t' y z ho1 ho2
  split at hf
  ·rename_i p q e1 e2
   simp only [bne_iff_ne,ne_eq] at hf
   have k1:=hE.root x p e1
   have k2:=hE.root y q e2
   unfold sop at hi hj ⊢
   simp only [ho1,ho2] at hi hj ⊢
   split at hj
   ·split at hj
    ·rename_i b o heq
     split at hi
     ·rename_i hok
      rw [if_pos hok]
      split at hi
      ·rename_i b2 o2 heq2
       have hb:=k2 b (by rw [heq];rfl)
       have hb2:=k1 b2 (by rw [heq2];rfl)
       subst hb;subst hb2
       cases hs:sstoreX P X.symSt t' b o (a.eval z) m with
       | none=>simp [hs] at hj
       | some mm =>
        simp only [hs,YO,qG,qH] at hj
        obtain ⟨qs,mm⟩:=mm
        obtain ⟨_,_,rfl⟩:=hj
        obtain ⟨B,rfl⟩:=vc hs
        simp only [heq2,pV (fun e=>hf e.symm)]
        cases hl:sloadX P X.sym t b2 o2 m with
        | none=>simp [hl] at hi
        | some u=>simp only [hl,YO,qG,qH] at hi ⊢;exact ⟨hi.1,hi.2.1,trivial⟩
      ·simp at hi
     ·simp at hi
    ·simp at hj
   ·simp at hj
  ·simp at hf
 ·simp at hf
theorem EC {a₀:Act} {ops:Array Oper} {h0 idi idj:Nat} {oi oj:Oper} (hE:Keeps a₀ ops h0 a) (hf:farApart a₀ ops h0 oi oj=true) {pi pj:List Prop} {vi vj:Value} {mj:Mem}
  (hi:sopD P X idi oi a.eval m=some (pi,vi,m)) (hj:sopD P X idj oj a.eval m=some (pj,vj,mj)):sopD P X idi oi a.eval mj=some (pi,vi,mj):=by
 obtain ⟨qi,ui,h1,rfl,rfl⟩:=du hi
 obtain ⟨qj,uj,h2,rfl,rfl⟩:=du hj
 exact kK (IJ hE hf h1 h2)
theorem Ak {a₀:Act} {ops:Array Oper} {h0 id idj:Nat} {oj:Oper} (hE:Keeps a₀ ops h0 a) (hf:notAt a₀ ops h0 id oj=true) {pj:List Prop} {vj:Value} {mij:Mem} {B:Option Blk} (hid:m[id]? = some none)
  (hj:sop P X idj oj a.eval (m.set id B)=some (pj,vj,mij)) : ∃ mj,sop P X idj oj a.eval m=some (pj,vj,mj)∧mj[id]? = some none∧mij=mj.set id B:=by
 unfold notAt at hf
 split at hf
 ·rename_i t y ho
  split at hf
  ·rename_i p e
   simp only [bne_iff_ne,ne_eq] at hf
   have k:=hE.root y p e
   unfold sop at hj ⊢
   simp only [ho] at hj ⊢
   split at hj
   ·rename_i hok
    rw [if_pos hok]
    split at hj
    ·rename_i b o heq
     have hb:=k b (by rw [heq];rfl)
     subst hb
     rw [pV (fun e=>hf e.symm)] at hj
     cases hl:sloadX P X.sym t b o m with
     | none=>simp [hl] at hj
     | some u =>
      simp only [hl,YO,qG,qH] at hj
      obtain ⟨rfl,rfl,rfl⟩:=hj
      exact ⟨m,by simp [heq,hl],hid,rfl⟩
    ·simp at hj
   ·simp at hj
  ·simp at hf
 ·rename_i t y z ho
  split at hf
  ·rename_i p e
   simp only [bne_iff_ne,ne_eq] at hf
   have k:=hE.root y p e
   unfold sop at hj ⊢
   simp only [ho] at hj ⊢
   split at hj
   ·rename_i hok
    rw [if_pos hok]
    split at hj
    ·rename_i b o heq
     have hb:=k b (by rw [heq];rfl)
     subst hb
     cases hl:sstoreX P X.symSt t b o (a.eval z) (m.set id B) with
     | none=>simp [hl] at hj
     | some u =>
      simp only [hl,YO,qG,qH] at hj
      obtain ⟨rfl,rfl,rfl⟩:=hj
      obtain ⟨x,e0,hs⟩:=vL (fun e=>hf e.symm) hl
      rw [e0]
      exact ⟨m.set b x,by simp [heq,hs],by rw [List.getElem?_set_ne hf];exact hid,List.set_comm _ _ (fun e=>hf e.symm)⟩
    ·simp at hj
   ·simp at hj
  ·simp at hf
 ·simp at hf
theorem Es (hX:X.OkF P r₀ w₀) {a₀:Act} {ops:Array Oper} {h0 i j:Nat} (hE:Keeps a₀ ops h0 a) {oi oj:Oper} {pi pj:List Prop} {vi vj:Value} {mi mij:Mem} (hi:sopD P X (jT h0 ops i) oi a.eval m=some (pi,vi,mi)) (hj:sopD P X (jT h0 ops j) oj a.eval mi=some (pj,vj,mij)) (hk:oJ X a₀ ops h0 i j oi oj=true) :
  ∃ mj,sopD P X (jT h0 ops j) oj a.eval m=some (pj,vj,mj)∧sopD P X (jT h0 ops i) oi a.eval mj=some (pi,vi,mij):=by
 simp only [oJ,Bool.or_eq_true,Bool.and_eq_true,beq_iff_eq,decide_eq_true_eq,bne_iff_ne,ne_eq] at hk
 rcases hk with (h0 | ⟨h1,h2⟩) | ⟨h1,h2⟩
 ·obtain ⟨rfl,h⟩:=Da hX h0 hi
  exact ⟨mij,hj,h mij⟩
 ·obtain ⟨rfl,h⟩:=Jk hX h1 hi
  refine ⟨mij,hj,?_⟩
  rcases h2 with h2 | h2
  ·have:kind X oj=0∨kind X oj=1∨kind X oj=2:=by omega
   rcases this with k | k | k
   ·obtain ⟨rfl,_⟩:=Da hX k hj;exact hi
   ·obtain ⟨rfl,_⟩:=Jk hX k hj;exact hi
   ·obtain ⟨hid,B,rfl,_⟩:=Bn k hj;exact h _ B hid
  ·exact EC hE h2 hi hj
 ·obtain ⟨hid,B,rfl,h⟩:=Bn h1 hi
  rcases h2 with (k | ⟨k,hne⟩) | k
  ·obtain ⟨rfl,h'⟩:=Da hX k hj
   exact ⟨m,h' m,h m hid⟩
  ·obtain ⟨hid2,B2,rfl,h'⟩:=Bn k hj
   rw [List.getElem?_set_ne hne] at hid2
   refine ⟨m.set (jT h0 ops j) (some B2),h' m hid2,?_⟩
   rw [h _ (by rw [List.getElem?_set_ne (Ne.symm hne)];exact hid),List.set_comm _ _ (Ne.symm hne)]
  ·obtain ⟨qj,uj,h3,rfl,rfl⟩:=du hj
   obtain ⟨mj,h4,h5,rfl⟩:=Ak hE k hid h3
   exact ⟨mj,kK h4,h mj h5⟩
theorem fE {ev ev':Operand→Value} {x:Operand} (h:ev x=ev' x):flatX ev x=flatX ev' x:=by
 cases x <;> simp_all [flatX]
theorem all_congr {xs:List Operand} {p q:Operand→Bool} (h : ∀ x ∈ xs,p x=q x):xs.all p=xs.all q:=by
 induction xs with
 | nil=>rfl
 | cons x xs ih=>simp only [List.all_cons,h x (by simp),ih fun y hy=>h y (by simp [hy])]
theorem ud {sym:Bool} {ev ev':Operand→Value} (o:Oper) (h : ∀ x ∈ o.op.operands,ev x=ev' x) (m:Mem):spure P sym o ev m=spure P sym o ev' m:=by
 unfold spure
 split
 ·rfl
 ·rename_i op hns
  have hq:seqO P o ev=seqO P o ev':=by
   unfold seqO
   split <;> rename_i ho
   ·rename_i x y _;simp only [ho,Op.operands] at h;rw [h x (by simp),h y (by simp)]
   ·rename_i x y _;simp only [ho,Op.operands] at h;rw [h x (by simp),h y (by simp)]
   ·rfl
  have hz:sshift sym o ev=sshift sym o ev':=by
   unfold sshift
   split <;> rename_i ho
   ·rename_i x y _;simp only [ho,Op.operands] at h;rw [h x (by simp),h y (by simp)]
   ·rename_i x y _;simp only [ho,Op.operands] at h;rw [h x (by simp),h y (by simp)]
   ·rfl
  rw [all_congr (fun x hx=>fE (h x (by simpa using hx))),execOp_congr o (fun cs b e=>hns cs b e) h,hq,hz]
theorem bC {gl:List Nat} {ev ev':Operand→Value} {x:Operand} (h:ev x=ev' x):okX gl ev x=okX gl ev' x:=by
 cases x <;> simp_all [okX]
theorem Ah {id:Nat} {ev ev':Operand→Value} (o:Oper) (h : ∀ x ∈ o.op.operands,ev x=ev' x) (m:Mem):sop P X id o ev m=sop P X id o ev' m:=by
 have hp:=ud (P:=P) (sym:=X.sym) o h m
 unfold sop
 split <;> rename_i ho <;> simp only [ho,Op.operands] at h
 case h_1 x=>rw [bC (h x (by simp)),h x (by simp)]
 case h_2 x=>rw [bC (h x (by simp)),h x (by simp)]
 case h_3=>rfl
 case h_4 x=>rw [bC (h x (by simp)),h x (by simp)]
 case h_5 x=>rw [bC (h x (by simp)),h x (by simp)]
 case h_6 x y=>rw [bC (h x (by simp)),bC (h y (by simp)),h x (by simp),h y (by simp)]
 case h_7 x i=>rw [bC (h x (by simp)),fE (h i (by simp)),h x (by simp),h i (by simp)]
 case h_8 x i=>rw [bC (h x (by simp)),h x (by simp)]
 case h_9 x=>rw [bC (h x (by simp)),h x (by simp),hp]
 case h_10 x lo hi =>
  have h0:=h x (by simp)
  have e1:=bC (gl:=X.gl) h0
  have e2:lo.all (flatX ev)=lo.all (flatX ev')∧lo.map ev=lo.map ev':=by
   cases lo with
   | none=>exact ⟨rfl,rfl⟩
   | some y=>have hy:=h y (by simp);exact ⟨by simp [fE hy],by simp [hy]⟩
  have e3:hi.all (flatX ev)=hi.all (flatX ev')∧hi.map ev=hi.map ev':=by
   cases hi with
   | none=>exact ⟨rfl,rfl⟩
   | some y=>have hy:=h y (by simp);exact ⟨by simp [fE hy],by simp [hy]⟩
  rw [e1,e2.1,e2.2,e3.1,e3.2,h0]
 case h_11 f args ts =>
  have hall : ∀ x ∈ args.toList,ev x=ev' x:=fun x hx=>h x (by simp [Call.operands];right;simpa using hx)
  rw [all_congr (fun x hx=>bC (hall x hx)),List.map_congr_left hall]
 case h_12 args ts =>
  split
  ·rename_i x y dT sT hargs hts
   have hx:=h x (by simp [Call.operands];rw [←Array.mem_toList_iff,hargs];simp)
   have hy:=h y (by simp [Call.operands];rw [←Array.mem_toList_iff,hargs];simp)
   rw [bC hx,bC hy,hx,hy]
  ·rfl
 case h_13 args ts =>
  split
  ·rename_i x t hargs hts
   have hx:=h x (by simp [Call.operands];rw [←Array.mem_toList_iff,hargs];simp)
   rw [bC hx,hx]
  ·rfl
 case h_14 t len parts =>
  have hall : ∀ p ∈ parts.toList,ev p.2=ev' p.2:=fun p hpm=>h p.2 (by simp;exact ⟨p.1,by simpa using hpm⟩)
  unfold sbuild
  have e1:parts.toList.all (fun p=>okX X.gl ev p.2 && oneV (ev p.2))=parts.toList.all (fun p=>okX X.gl ev' p.2 && oneV (ev' p.2)):=by
   generalize parts.toList=l at hall
   induction l with
   | nil=>rfl
   | cons q l ih =>
    simp only [List.all_cons,bC (gl:=X.gl) (hall q (by simp)),hall q (by simp),ih fun p hpm=>hall p (by simp [hpm])]
  have e2:parts.toList.map (fun p=>ev p.2)=parts.toList.map (fun p=>ev' p.2):=List.map_congr_left hall
  rw [e1,e2]
 case h_15 x=>rw [bC (h x (by simp)),h x (by simp)]
 case h_16=>exact hp
theorem xT {id:Nat} {ev ev':Operand→Value} (o:Oper) (h : ∀ x ∈ o.op.operands,ev x=ev' x) (m:Mem):sopD P X id o ev m=sopD P X id o ev' m:=by
 unfold sopD;rw [Ah o h m]
def guardOK (ops:Array Oper) (a:Act) (o:Oper):Bool :=
 match o.guard with
 | none=>true
 | some (j,_)=>match (ops[j]?).bind (·.dst) with
  | some t=>good (a.eval (.tmp t))
  | none=>true
def sstep (P:Program) (X:Cx) (ops:Array Oper) (h0 i:Nat) (s:Act × Mem):Option (List Prop × Act × Mem) :=
 match ops[i]? with
 | none=>none
 | some o =>
  if guardOK ops s.1 o then
   if Region.wanted o (yielded ops s.1.tmps) then
    match sopD P X (jT h0 ops i) o s.1.eval s.2 with
    | some (ps,v,m')=>some (ps,s.1.put o.dst v,m')
    | none=>none
   else some ([],s.1.put o.dst undef,s.2)
  else none
variable {ops:Array Oper}
theorem mW {id:Nat} {o:Oper} {d:Option Tmp} {v:Value} (h : ∀ t,d=some t→t ∉ o.looksAt ops) (m:Mem):sopD P X id o (a.put d v).eval m=sopD P X id o a.eval m :=
 xT o (fun x hx=>Act.eval_put fun t ht hxt=>h t ht (by
  subst hxt
  exact List.mem_append_left _ (List.mem_filterMap.2 ⟨.tmp t,by simpa using hx,rfl⟩))) m
theorem eW {o:Oper} {d:Option Tmp} {v:Value} (h : ∀ t,d=some t→t ∉ o.looksAt ops):guardOK ops (a.put d v) o=guardOK ops a o:=by
 unfold guardOK
 cases hg:o.guard with
 | none=>rfl
 | some q =>
  obtain ⟨j,want⟩:=q
  simp only
  cases ht:(ops[j]?).bind (·.dst) with
  | none=>rfl
  | some t =>
   simp only
   rw [Act.eval_put (fun d' hd e=>h d' hd (by cases e;simp [Oper.looksAt,hg,ht]))]
theorem Jq {i:Nat} {o:Oper} (ho:ops[i]? = some o) {t:Nat} (hd:o.dst=some t):(o,i) ∈ wr ops t :=
 List.mem_filter.2 ⟨List.mem_zipIdx_iff_getElem?.2 (by simpa using ho),by simp [hd]⟩
theorem xA {sym:Bool} {t:TypeId} {x i v:Value} {ps:List Prop} (h:sindex P sym t x i=some (ps,v)):blk v=blk x:=by
 unfold sindex at h
 split at h
 ·split at h
  ·simp only [qG,qH] at h;obtain ⟨_,rfl⟩:=h;rfl
  ·simp at h
 ·split at h
  ·simp only [qG,qH] at h;obtain ⟨_,rfl⟩:=h;rfl
  ·simp at h
 ·simp at h
theorem xO {t:TypeId} {i:Nat} {x v:Value} (h:sfield P t x i=some v):blk v=blk x:=by
 unfold sfield at h
 split at h
 ·split at h
  ·split at h
   ·split at h
    ·simp at h
    ·simp only [qG] at h;subst h;rfl
   ·simp at h
  ·simp at h
 ·simp at h
theorem BQ {v:Value} (h:flat v=true):blk v=none:=by
 unfold blk
 split
 ·simp [flat,flat2,flat1] at h
 ·simp [flat,flat2,flat1] at h
 ·rfl
theorem Bg {sym:Bool} {o:Oper} {ev:Operand→Value} {ps:List Prop} {v:Value} {m':Mem} (h:spure P sym o ev m=some (ps,v,m')):blk v=none:=by
 unfold spure at h
 split at h
 ·simp at h
 ·split at h
  ·split at h
   ·rename_i hz
    simp only [qG,qH] at h
    obtain ⟨_,rfl,_⟩:=h
    unfold sshift at hz
    split at hz
    ·split at hz
     ·simp only [qG,qH] at hz;rw [←hz.2];rfl
     ·simp at hz
    ·split at hz
     ·simp only [qG,qH] at hz;rw [←hz.2];rfl
     ·simp at hz
    ·simp at hz
   ·split at h
    ·rename_i hq
     simp only [qG,qH] at h
     obtain ⟨_,rfl,_⟩:=h
     unfold seqO at hq
     split at hq
     ·rename_i t x y _ _;cases hs:seqv P t (ev x) (ev y) <;> simp [hs] at hq;rw [←hq];rfl
     ·rename_i t x y _ _;cases hs:seqv P t (ev x) (ev y) <;> simp [hs] at hq;rw [←hq];rfl
     ·simp at hq
    ·split at h
     ·split at h
      ·rename_i hf
       simp only [qG,qH] at h
       obtain ⟨_,rfl,_⟩:=h
       exact BQ hf
      ·simp at h
     ·simp at h
  ·simp at h
theorem qh {a₀:Act} {h0 i:Nat} {o:Oper} (ho:ops[i]? = some o) {v:Value} (hE:Keeps a₀ ops h0 a)
  (hv : ∀ y,addrOf o=some y→blk v=none∨blk v=blk (a.eval y)) (hm:makes o=true→blk v=none∨blk v=some (jT h0 ops i)):Keeps a₀ ops h0 (a.put o.dst v):=by
 refine ⟨fun t ht => ?_,fun n x b hb b' hb' => ?_⟩
 ·rw [Act.eval_put (fun d hd e => ?_)]
  ·exact hE.same t ht
  ·cases e
   have:=Jq ho hd
   rw [ht] at this;cases this
 ·by_cases hd:o.dst=some x
  ·have hw:=Jq ho hd
   have hput:blk ((a.put o.dst v).eval (.tmp x))=some b'→blk v=some b':=by
    rw [hd,eval_put,if_pos rfl]
    split
    ·exact id
    ·intro h;cases h
   have hvb:=hput hb'
   cases n with
   | zero=>simp [rootN] at hb
   | succ n =>
    simp only [rootN] at hb
    split at hb
    ·rename_i hwy;rw [hwy] at hw;cases hw
    ·rename_i o' k hwr
     rw [hwr] at hw
     have e:=YJ.1 hw
     simp only [qH] at e
     obtain ⟨rfl,rfl⟩:=e
     split at hb
     ·simp at hb
     ·split at hb
      ·rename_i hmk
       rcases hm hmk with h | h
       ·rw [h] at hvb;cases hvb
       ·rw [h] at hvb;cases hb;cases hvb;rfl
      ·split at hb
       ·rename_i y hy
        rcases hv _ hy with h | h
        ·rw [h] at hvb;cases hvb
        ·rw [h] at hvb;exact hE.roots n y b hb b' hvb
       ·rename_i g hy
        rcases hv _ hy with h | h
        ·rw [h] at hvb;cases hvb
        ·rw [h] at hvb
         simp only [qG] at hb;subst hb
         simp [Act.eval,blk] at hvb;exact hvb.symm
       ·simp at hb
    ·simp at hb
  ·rw [Act.eval_put (fun d hd' e=>hd (by cases e;exact hd'))] at hb'
   exact hE.roots n x b hb b' hb'
theorem uv {o:Oper} {v:Value} : blk (told X o v).2=blk v:=by
 unfold told
 split
 ·split <;> rfl
 ·split <;> rfl
 ·rfl
theorem ye {t:TypeId} {x v:Value} {lo hi:Option Value} (h:sslice P t x lo hi=some v):blk v=blk x:=by
 unfold sslice at h
 split at h
 ·split at h
  ·simp only [qG] at h;subst h;rfl
  ·simp at h
 ·split at h
  ·simp only [qG] at h;subst h;rfl
  ·simp at h
 ·simp at h
theorem uk {sym:Bool} {t:TypeId} {x v:Value} {lo hi:Option Value} {ps:List Prop} (h:ssliceX P sym t x lo hi=some (ps,v)):blk v=none∨blk v=blk x:=by
 unfold ssliceX at h
 split at h
 ·split at h
  ·simp only [qG,qH] at h;obtain ⟨_,rfl⟩:=h;exact .inr rfl
  ·simp at h
 ·split at h
  ·simp only [qG,qH] at h;obtain ⟨_,rfl⟩:=h;exact .inr rfl
  ·simp at h
 ·split at h
  ·simp only [qG,qH] at h;obtain ⟨_,rfl⟩:=h;exact .inl rfl
  ·simp at h
 ·simp only [Option.map_eq_some_iff,qH] at h
  obtain ⟨u,hs,_,rfl⟩:=h
  exact .inr (ye hs)
theorem jY {a₀:Act} {h0 i:Nat} {ps:List Prop} {s s':Act × Mem} (h:sstep P X ops h0 i s=some (ps,s')) (hE:Keeps a₀ ops h0 s.1):Keeps a₀ ops h0 s'.1:=by
 unfold sstep at h
 cases ho:ops[i]? with
 | none=>simp [ho] at h
 | some o =>
  simp only [ho] at h
  split at h
  ·split at h
   ·split at h
    ·rename_i qs v m' hs
     simp only [qG,qH] at h
     obtain ⟨_,rfl⟩:=h
     obtain ⟨q,u,h1,_,rfl⟩:=du hs
     refine qh ho hE (fun y hy => ?_) (fun hmk => ?_)
     ·rw [uv]
      unfold addrOf at hy
      unfold sop at h1
      split at hy
      ·rename_i t y' j hop
       simp only [qG] at hy;subst hy
       simp only [hop] at h1
       split at h1
       ·cases hl:sindex P X.sym t (s.1.eval y') (s.1.eval j) with
        | none=>simp [hl] at h1
        | some z =>
         simp only [hl,YO,qG,qH] at h1
         obtain ⟨_,rfl,_⟩:=h1
         exact .inr (xA hl)
       ·simp at h1
      ·rename_i t y' j hop
       simp only [qG] at hy;subst hy
       simp only [hop] at h1
       split at h1
       ·cases hl:sfield P t (s.1.eval y') j with
        | none=>simp [hl] at h1
        | some z =>
         simp only [hl,YO,qG,qH] at h1
         obtain ⟨_,rfl,_⟩:=h1
         exact .inr (xO hl)
       ·simp at h1
      ·rename_i y' hop
       simp only [qG] at hy;subst hy
       simp only [hop] at h1
       split at h1
       ·split at h1
        ·rename_i p he
         simp only [qG,qH] at h1
         obtain ⟨_,rfl,_⟩:=h1
         exact .inr (by rw [he])
        ·exact .inl (Bg h1)
       ·simp at h1
      ·rename_i y' hop
       simp only [qG] at hy;subst hy
       simp only [hop] at h1
       split at h1
       ·simp only [qG,qH] at h1
        obtain ⟨_,rfl,_⟩:=h1
        exact .inr rfl
       ·simp at h1
      ·rename_i t y' hop
       simp only [qG] at hy;subst hy
       simp only [hop] at h1
       split at h1
       ·cases hl:sarrp P t (s.1.eval y') with
        | none=>simp [hl] at h1
        | some z =>
         simp only [hl,YO,qG,qH] at h1
         obtain ⟨_,rfl,_⟩:=h1
         refine .inr ?_
         unfold sarrp at hl
         split at hl
         ·rename_i e1 e2
          split at hl
          ·simp only [qG] at hl;subst hl
           rw [e2];rfl
          ·simp at hl
         ·simp at hl
       ·simp at h1
      ·rename_i t y' lo hi hop
       simp only [qG] at hy;subst hy
       simp only [hop] at h1
       split at h1
       ·cases hl:ssliceX P X.sym t (s.1.eval y') (lo.map s.1.eval) (hi.map s.1.eval) with
        | none=>simp [hl] at h1
        | some z =>
         obtain ⟨z1,z2⟩:=z
         simp only [hl,YO,qG,qH] at h1
         obtain ⟨_,rfl,_⟩:=h1
         exact uk hl
       ·simp at h1
      ·simp at hy
     ·rw [uv]
      unfold makes at hmk
      unfold sop at h1
      split at hmk
      ·rename_i t hop
       simp only [hop] at h1
       split at h1
       ·split at h1
        ·split at h1
         ·simp only [qG,qH] at h1;obtain ⟨_,rfl,_⟩:=h1;exact .inr rfl
         ·simp at h1
        ·simp at h1
       ·simp at h1
      ·rename_i t y hop
       simp only [hop] at h1
       split at h1
       ·split at h1
        ·simp only [qG,qH] at h1;obtain ⟨_,rfl,_⟩:=h1;exact .inr rfl
        ·simp at h1
       ·simp at h1
      ·rename_i t len parts hop
       simp only [hop] at h1
       unfold sbuild at h1
       split at h1
       ·split at h1
        ·split at h1
         ·simp only [qG,qH] at h1;obtain ⟨_,rfl,_⟩:=h1;exact .inr rfl
         ·simp at h1
        ·simp at h1
       ·simp at h1
      ·simp at hmk
    ·simp at h
   ·simp only [qG,qH] at h
    obtain ⟨_,rfl⟩:=h
    exact qh ho hE (fun _ _ => .inl rfl) (fun _ => .inl rfl)
  ·simp at h
theorem vx {a₀:Act} {h0:Nat} : Keeps a₀ ops h0 a₀:=by
 refine ⟨fun _ _=>rfl,fun n x b hb b' hb' => ?_⟩
 cases n with
 | zero=>simp [rootN] at hb
 | succ n =>
  simp only [rootN] at hb
  split at hb
  ·rw [hb] at hb';exact (Option.some.inj hb').symm
  ·split at hb
   ·simp at hb
   ·rename_i hn;rw [hb'] at hn;simp at hn
  ·simp at hb
theorem Am (hX:X.OkF P r₀ w₀) {a₀:Act} {h0 i j:Nat} {oi oj:Oper} (hi:ops[i]? = some oi) (hj:ops[j]? = some oj) (hap:oi.apart ops oj=true) (hk:oJ X a₀ ops h0 i j oi oj=true)
  {pi pj:List Prop} {s si sij:Act × Mem} (hE:Keeps a₀ ops h0 s.1) (h1:sstep P X ops h0 i s=some (pi,si)) (h2:sstep P X ops h0 j si=some (pj,sij)) : ∃ sj,sstep P X ops h0 j s=some (pj,sj)∧sstep P X ops h0 i sj=some (pi,sij):=by
 obtain ⟨p1,p2,p3⟩:=Oper.apart_spec hap
 unfold sstep at *
 simp only [hi,hj] at *
 split at h1
 ·rename_i gi
  split at h1
  ·rename_i wi
   cases hs:sopD P X (jT h0 ops i) oi s.1.eval s.2 with
   | none=>simp [hs] at h1
   | some p =>
    obtain ⟨qi,vi,mi⟩:=p
    simp only [hs,qG,qH] at h1
    obtain ⟨rfl,rfl⟩:=h1
    simp only [wanted_put oj s.1 oi.dst vi p1,eW (a:=s.1) p1] at h2
    split at h2
    ·rename_i gj
     split at h2
     ·rename_i wj
      rw [mW p1] at h2
      cases ht:sopD P X (jT h0 ops j) oj s.1.eval mi with
      | none=>simp [ht] at h2
      | some q =>
       obtain ⟨qj,vj,mij⟩:=q
       simp only [ht,qG,qH] at h2
       obtain ⟨rfl,rfl⟩:=h2
       obtain ⟨mj,c1,c2⟩:=Es hX hE hs ht hk
       refine ⟨(s.1.put oj.dst vj,mj),by simp [gj,wj,c1],?_⟩
       simp only [wanted_put oi s.1 oj.dst vj p3,eW (a:=s.1) p3,gi,wi,if_true,mW p3,c2,Act.put_comm s.1 vi vj p2]
     ·rename_i wj
      simp only [qG,qH] at h2
      obtain ⟨rfl,rfl⟩:=h2
      refine ⟨(s.1.put oj.dst undef,s.2),by simp [gj,wj],?_⟩
      simp only [wanted_put oi s.1 oj.dst undef p3,eW (a:=s.1) p3,gi,wi,if_true,mW p3,hs,Act.put_comm s.1 vi undef p2]
    ·simp at h2
  ·rename_i wi
   simp only [qG,qH] at h1
   obtain ⟨rfl,rfl⟩:=h1
   simp only [wanted_put oj s.1 oi.dst undef p1,eW (a:=s.1) p1] at h2
   split at h2
   ·rename_i gj
    split at h2
    ·rename_i wj
     rw [mW p1] at h2
     cases ht:sopD P X (jT h0 ops j) oj s.1.eval s.2 with
     | none=>simp [ht] at h2
     | some q =>
      obtain ⟨qj,vj,mij⟩:=q
      simp only [ht,qG,qH] at h2
      obtain ⟨rfl,rfl⟩:=h2
      refine ⟨(s.1.put oj.dst vj,mij),by simp [gj,wj],?_⟩
      simp only [wanted_put oi s.1 oj.dst vj p3,eW (a:=s.1) p3,gi,wi,if_true,Act.put_comm s.1 undef vj p2];rfl
    ·rename_i wj
     simp only [qG,qH] at h2
     obtain ⟨rfl,rfl⟩:=h2
     refine ⟨(s.1.put oj.dst undef,s.2),by simp [gj,wj],?_⟩
     simp only [wanted_put oi s.1 oj.dst undef p3,eW (a:=s.1) p3,gi,wi,if_true,Act.put_comm s.1 undef undef p2];rfl
   ·simp at h2
 ·simp at h1
def Ea (P:Program) (X:Cx) (ops:Array Oper) (h0:Nat) (out:Act × Mem):Nat→Array Bool→Act × Mem→Prop
 | 0,listed,s=>Region.ready .any ops listed = []∧s=out
 | n+1,listed,s=>(Region.ready .any ops listed = []→s=out) ∧ ∀ i ∈ Region.ready .any ops listed,∃ ps s',sstep P X ops h0 i s=some (ps,s')∧(∀ p ∈ ps,p)∧Ea P X ops h0 out n (listed.setIfInBounds i true) s'
def mask (acc:List Nat):List Edge→Nat
 | []=>0
 | e :: es=>if Region.binds .any e then 2 ^ e.on ||| acc.getD e.on 0 ||| mask acc es else mask acc es
def ancs:List Oper→List Nat→List Nat
 | [],acc=>acc
 | o :: os,acc=>ancs os (acc ++ [mask acc o.after.toList])
theorem lj {acc:List Nat} {i:Nat} : ∀ {es:List Edge},(mask acc es).testBit i=true → ∃ e ∈ es,Region.binds .any e=true∧(e.on=i∨(acc.getD e.on 0).testBit i=true)
 | [],h=>by simp [mask] at h
 | e :: es,h=>by
  simp only [mask] at h
  split at h
  ·rename_i hb
   simp only [Nat.testBit_or,Bool.or_eq_true,Nat.testBit_two_pow,decide_eq_true_eq] at h
   rcases h with (h | h) | h
   ·exact ⟨e,by simp,hb,.inl h⟩
   ·exact ⟨e,by simp,hb,.inr h⟩
   ·obtain ⟨e',h1,h2⟩:=lj h;exact ⟨e',by simp [h1],h2⟩
  ·obtain ⟨e',h1,h2⟩:=lj h;exact ⟨e',by simp [h1],h2⟩
theorem lf : ∀ (os:List Oper) (acc:List Nat),(ancs os acc).take acc.length=acc∧(∀ t o,os[t]? = some o→(ancs os acc)[acc.length+t]? = some (mask ((ancs os acc).take (acc.length+t)) o.after.toList))∧(ancs os acc).length=acc.length+os.length
 | [],acc=>⟨by simp [ancs],fun t o h=>by simp at h,by simp [ancs]⟩
 | o :: os,acc=>by
  obtain ⟨h1,h2,h3⟩:=lf os (acc ++ [mask acc o.after.toList])
  have h0:(ancs os (acc ++ [mask acc o.after.toList])).take acc.length=acc:=by
   have:=congrArg (List.take acc.length) h1
   rw [List.take_take] at this
   simpa using this
  simp only [ancs]
  refine ⟨h0,fun t o' ht => ?_,by rw [h3];simp;omega⟩
  cases t with
  | zero =>
   simp at ht;subst ht
   rw [Nat.add_zero,h0]
   have:=congrArg (fun l=>l[acc.length]?) h1
   simp only [List.getElem?_take] at this
   rw [if_pos (by simp)] at this
   rw [this];simp
  | succ t =>
   have:=h2 t o' (by simpa using ht)
   simp only [List.length_append,List.length_cons,List.length_nil] at this
   rw [show acc.length+(t+1)=acc.length+(0+1)+t by omega]
   exact this
theorem vP {j i:Nat} {o:Oper} (ho:ops[j]? = some o) (h:((ancs ops.toList []).getD j 0).testBit i=true) :
  ∃ e ∈ o.after,Region.binds .any e=true∧(e.on=i∨(e.on<j∧((ancs ops.toList []).getD e.on 0).testBit i=true)):=by
 obtain ⟨_,h2,_⟩:=lf ops.toList []
 have h3:=h2 j o (by simpa using ho)
 simp only [List.length_nil,Nat.zero_add] at h3
 rw [List.getD_eq_getElem?_getD,h3] at h
 obtain ⟨e,he,hb,h4⟩:=lj h
 refine ⟨e,by simpa using he,hb,h4.imp id fun h5 => ?_⟩
 rw [List.getD_eq_getElem?_getD,List.getElem?_take] at h5
 split at h5
 ·rename_i hlt;exact ⟨hlt,by rw [List.getD_eq_getElem?_getD];exact h5⟩
 ·simp at h5
def jZ (ops:Array Oper) (listed:Array Bool):Prop := ∀ j o,ops[j]? = some o→listed.getD j false=true → ∀ e ∈ o.after,Region.binds .any e=true→listed.getD e.on false=true
theorem wS {listed:Array Bool} (hc:jZ ops listed) {i:Nat} : ∀ (j:Nat),listed.getD j false=true→((ancs ops.toList []).getD j 0).testBit i=true→listed.getD i false=true:=by
 intro j
 induction j using Nat.strongRecOn with
 | _ j ih =>
  intro hl ht
  cases ho:ops[j]? with
  | none =>
   obtain ⟨_,_,h3⟩:=lf ops.toList []
   have:(ancs ops.toList []).getD j 0=0:=by
    rw [List.getD_eq_getElem?_getD,List.getElem?_eq_none];rfl
    rw [h3];rw [Array.getElem?_eq_none_iff] at ho;simpa using ho
   rw [this] at ht;simp at ht
  | some o =>
   obtain ⟨e,he,hb,h4⟩:=vP ho ht
   have h5:=hc j o ho hl e he hb
   rcases h4 with rfl | ⟨h6,h7⟩
   ·exact h5
   ·exact ih e.on h6 h5 h7
theorem zN {listed:Array Bool} (hc:jZ ops listed) {i j:Nat} (hj:j ∈ Region.ready .any ops listed) (ht:((ancs ops.toList []).getD j 0).testBit i=true):listed.getD i false=true:=by
 obtain ⟨_,o,ho,hall⟩:=mem_ready.1 hj
 obtain ⟨e,he,hb,h4⟩:=vP ho ht
 have h5:=hall e he hb
 rcases h4 with rfl | ⟨_,h7⟩
 ·exact h5
 ·exact wS hc e.on h5 h7
theorem Cc {listed:Array Bool} {i:Nat} (h1:listed.getD i true=false) (h2:listed.getD i false=true):False:=by
 rcases Nat.lt_or_ge i listed.size with h | h
 ·simp [h] at h1 h2;rw [h1] at h2;cases h2
 ·simp [Array.getElem?_eq_none h] at h2
theorem jW {listed:Array Bool} (hc:jZ ops listed) {j:Nat} (hj:j ∈ Region.ready .any ops listed):jZ ops (listed.setIfInBounds j true):=by
 intro k o ho hl e he hb
 refine getD_set_true ?_
 by_cases hjk:j=k
 ·subst hjk
  obtain ⟨_,o',ho',hall⟩:=mem_ready.1 hj
  rw [ho] at ho';cases ho'
  exact hall e he hb
 ·rw [getD_set_ne false hjk] at hl;exact hc k o ho hl e he hb
theorem vU (hX:X.OkF P r₀ w₀) {a₀:Act} {h0 i:Nat} {oi:Oper} (hi:ops[i]? = some oi) {out:Act × Mem} : ∀ (fuel:Nat) (listed:Array Bool) (s si:Act × Mem) (ps:List Prop),(∀ p ∈ ps,p)→Keeps a₀ ops h0 s.1→jZ ops listed →
  (∀ j oj,ops[j]? = some oj→j≠i→listed.getD j true=false→((ancs ops.toList []).getD j 0).testBit i=false→oi.apart ops oj=true∧oJ X a₀ ops h0 i j oi oj=true) →
  i ∈ Region.ready .any ops listed→sstep P X ops h0 i s=some (ps,si)→Ea P X ops h0 out fuel (listed.setIfInBounds i true) si→Ea P X ops h0 out (fuel+1) listed s:=by
 intro fuel
 induction fuel with
 | zero =>
  intro listed s si ps hps _ _ _ hr hs H
  refine ⟨fun h=>(by rw [h] at hr;cases hr),fun j hj => ?_⟩
  by_cases hji:j=i
  ·subst hji;exact ⟨ps,si,hs,hps,H⟩
  ·have:=ready_mono hj hji
   rw [H.1] at this
   cases this
 | succ fuel ih =>
  intro listed s si ps hps hE hc hfree hr hs H
  refine ⟨fun h=>(by rw [h] at hr;cases hr),fun j hj => ?_⟩
  by_cases hji:j=i
  ·subst hji;exact ⟨ps,si,hs,hps,H⟩
  ·obtain ⟨pj,sij,h1,hpj,h2⟩:=H.2 j (ready_mono hj hji)
   obtain ⟨hjun,oj,hoj,hall⟩:=mem_ready.1 hj
   have hbit:((ancs ops.toList []).getD j 0).testBit i=false:=by
    cases hb:((ancs ops.toList []).getD j 0).testBit i with
    | false=>rfl
    | true=>exact (Cc (mem_ready.1 hr).1 (zN hc hj hb)).elim
   obtain ⟨hap,hk⟩:=hfree j oj hoj hji hjun hbit
   obtain ⟨sj,c1,c2⟩:=Am hX hi hoj hap hk hE hs h1
   refine ⟨pj,sj,c1,hpj,ih _ sj sij ps hps (jY c1 hE) (jW hc hj) (fun k ok hk' hki hun hb=>hfree k ok hk' hki ?_ hb) (ready_mono hr (Ne.symm hji)) c2 ?_⟩
   ·by_cases hjk:j=k
    ·subst hjk;exact hjun
    ·rw [getD_set_ne true hjk] at hun;exact hun
   ·rw [Array.setIfInBounds_comm _ _ hji];exact h2
def canFirst (X:Cx) (a₀:Act) (ops:Array Oper) (h0:Nat) (M:List Nat) (listed:Array Bool) (i:Nat):Bool :=
 match ops[i]? with
 | none=>false
 | some oi=>(List.range ops.size).all fun j=>j == i || listed.getD j true || (M.getD j 0).testBit i || match ops[j]? with
   | some oj=>oi.apart ops oj && oJ X a₀ ops h0 i j oi oj
   | none=>true
def srun (P:Program) (X:Cx) (a₀:Act) (ops:Array Oper) (h0:Nat) (M:List Nat):Nat→Array Bool→List Prop→Act × Mem→Option (List Prop × Act × Mem)
 | 0,listed,qs,s=>match Region.ready .any ops listed with
  | []=>some (qs,s)
  | _=>none
 | n+1,listed,qs,s=>match Region.ready .any ops listed with
  | []=>some (qs,s)
  | i :: rest=>match (i :: rest).find? (canFirst X a₀ ops h0 M listed) with
   | some k=>match sstep P X ops h0 k s with
    | some (ps,s')=>srun P X a₀ ops h0 M n (listed.setIfInBounds k true) (qs ++ ps) s'
    | none=>none
   | none=>match rest with
    | []=>match sstep P X ops h0 i s with
     | some (ps,s')=>srun P X a₀ ops h0 M n (listed.setIfInBounds i true) (qs ++ ps) s'
     | none=>none
    | _=>none
theorem Bw (hX:X.OkF P r₀ w₀) {a₀:Act} {h0:Nat} {out:Act × Mem} {rs:List Prop} (hrs : ∀ p ∈ rs,p) : ∀ (n:Nat) (listed:Array Bool) (qs:List Prop) (s:Act × Mem),Keeps a₀ ops h0 s.1→jZ ops listed→srun P X a₀ ops h0 (ancs ops.toList []) n listed qs s=some (rs,out)→(∀ p ∈ qs,p)∧Ea P X ops h0 out n listed s:=by
 intro n
 induction n with
 | zero =>
  intro listed qs s _ _ h
  unfold srun at h
  split at h
  ·rename_i hr
   simp only [qG,qH] at h
   exact ⟨by rw [h.1];exact hrs,hr,h.2⟩
  ·simp at h
 | succ n ih =>
  intro listed qs s hE hc h
  unfold srun at h
  split at h
  ·rename_i hr
   simp only [qG,qH] at h
   exact ⟨by rw [h.1];exact hrs,fun _=>h.2,by rw [hr];simp⟩
  ·rename_i i rest hr
   split at h
   ·rename_i k hk
    have hm:k ∈ Region.ready .any ops listed:=by rw [hr];exact List.mem_of_find?_eq_some hk
    have hf:=List.find?_some hk
    split at h
    ·rename_i ps s' hs
     obtain ⟨h0,h1⟩:=ih _ _ s' (jY hs hE) (jW hc hm) h
     obtain ⟨_,ok,hok,_⟩:=mem_ready.1 hm
     refine ⟨fun p hp=>h0 p (by simp [hp]),vU hX hok n listed s s' ps (fun p hp=>h0 p (by simp [hp])) hE hc (fun j oj hoj hji hun hb => ?_) hm hs h1⟩
     simp only [canFirst,hok,List.all_eq_true,List.mem_range] at hf
     have:=hf j (YM.1 hoj).1
     simp only [hoj,Bool.or_eq_true,beq_iff_eq,hji,false_or,hun,Bool.false_eq_true,hb,Bool.and_eq_true] at this
     exact this
    ·simp at h
   ·split at h
    ·split at h
     ·rename_i ps s' hs
      have hm:i ∈ Region.ready .any ops listed:=by rw [hr];simp
      obtain ⟨h0,h1⟩:=ih _ _ s' (jY hs hE) (jW hc hm) h
      refine ⟨fun p hp=>h0 p (by simp [hp]),fun h0=>(by rw [hr] at h0;cases h0),fun j hj => ?_⟩
      rw [hr] at hj
      simp at hj
      subst hj
      exact ⟨ps,s',hs,fun p hp=>h0 p (by simp [hp]),h1⟩
     ·simp at h
    ·simp at h
theorem Iq {b:Bool} {v:Value} (h:tr r v=some (.bool b)):v = .bool b:=by
 cases v with
 | tuple vs =>
  simp only [tr] at h
  split at h
  ·simp only [tr1] at h
   split at h
   ·split at h
    ·rename_i hb
     simp only [qG] at h;subst h
     simp [notBool] at hb
    ·simp at h
   ·simp at h
  ·simp at h
 | agg cs=>simp [tr,tr2] at h
 | pointer p=>cases p <;> simp [tr,tr2,tr1,flat1] at h
 | slice p l c=>cases p <;> simp [tr,tr2,tr1,flat1] at h
 | map p=>cases p <;> simp [tr,tr2,tr1,flat1] at h
 | chan p=>cases p <;> simp [tr,tr2,tr1,flat1] at h
 | _=>simp [tr,tr2,tr1,flat1] at h <;> simp [h]
theorem xQ (S:Sim gl r₀ w₀ a m A w r) (o:Oper) (hg:guardOK ops a o=true):Region.wanted o (yielded ops A.tmps)=Region.wanted o (yielded ops a.tmps):=by
 unfold Region.wanted
 unfold guardOK at hg
 cases hgd:o.guard with
 | none=>rfl
 | some q =>
  obtain ⟨j,want⟩:=q
  simp only [hgd] at hg ⊢
  have hy:yielded ops A.tmps j=yielded ops a.tmps j:=by
   unfold yielded
   cases ht:(ops[j]?).bind (·.dst) with
   | none=>rfl
   | some t =>
    simp only [ht] at hg
    simp only [Option.bind_some]
    have hev:=S.eval (x := .tmp t) hg
    simp only [Act.eval,Array.getD_eq_getD_getElem?] at hev
    have hsz:=S.size
    cases hta:a.tmps[t]? with
    | none =>
     have:A.tmps[t]? = none:=by
      rw [Array.getElem?_eq_none_iff] at hta ⊢;omega
     rw [this]
    | some v =>
     obtain ⟨v',hv'⟩ : ∃ v',A.tmps[t]? = some v':=by
      have hlt:t<A.tmps.size:=by rw [S.size];exact (YM.1 hta).1
      exact ⟨A.tmps[t],by simp [hlt]⟩
     rw [hta,hv'] at hev
     simp only [Option.getD_some] at hev
     rw [hv']
     by_cases hv : ∃ b,v' = .bool b
     ·obtain ⟨b,rfl⟩:=hv
      rw [Iq hev]
     ·have hv2 : ¬ ∃ b,v = .bool b:=by
       rintro ⟨b,rfl⟩
       simp [tr,tr2,tr1,flat1] at hev
       exact hv ⟨b,hev.symm⟩
      cases v' <;> cases v <;> first | rfl | (exact absurd ⟨_,rfl⟩ hv) | (exact absurd ⟨_,rfl⟩ hv2)
  rw [hy]
theorem yI (hX:X.OkF P r₀ w₀) {h0 i:Nat} {ps:List Prop} {s s':Act × Mem} (h:sstep P X ops h0 i s=some (ps,s')) (hp : ∀ p ∈ ps,p) (S:Sim X.gl r₀ w₀ s.1 s.2 A w r) {K:Act→World→Prop} {Q:Exit→Act→World→Prop}
  (hK : ∀ A' w' r',Sim X.gl r₀ w₀ s'.1 s'.2 A' w' r'→K A' w'):wpOp P ops Q i K A w:=by
 unfold sstep at h
 unfold wpOp
 cases ho:ops[i]? with
 | none=>simp [ho] at h
 | some o =>
  simp only [ho] at h ⊢
  split at h
  ·rename_i hg
   rw [xQ S o hg]
   split at h
   ·rename_i hw
    rw [if_pos hw]
    cases hs:sopD P X (jT h0 ops i) o s.1.eval s.2 with
    | none=>simp [hs] at h
    | some p =>
     obtain ⟨qs,v,m'⟩:=p
     simp only [hs,qG,qH] at h
     obtain ⟨rfl,rfl⟩:=h
     exact .inl (Fp hX hs hp S hK)
   ·rename_i hw
    rw [if_neg hw]
    simp only [qG,qH] at h
    obtain ⟨rfl,rfl⟩:=h
    exact hK _ _ _ (S.put0 (dk r) _)
  ·simp at h
theorem Lq (hX:X.OkF P r₀ w₀) {h0:Nat} {out:Act × Mem} {Q:Exit→Act→World→Prop} (hQ : ∀ A w r,Sim X.gl r₀ w₀ out.1 out.2 A w r→Q .normal A w) :
  ∀ (n:Nat) (listed:Array Bool) (s:Act × Mem) (A:Act) (w:World) (r:Ren),Ea P X ops h0 out n listed s→Sim X.gl r₀ w₀ s.1 s.2 A w r→wpAny P .any ops Q n listed A w:=by
 intro n
 induction n with
 | zero=>intro listed s A w r h S;exact ⟨h.1,hQ _ _ _ (h.2 ▸ S)⟩
 | succ n ih =>
  intro listed s A w r h S
  refine ⟨fun h0=>hQ _ _ _ (h.1 h0 ▸ S),fun i hi => ?_⟩
  obtain ⟨ps,s',h1,hp,h2⟩:=h.2 i hi
  exact yI hX h1 hp S (fun A' w' r' S'=>ih _ s' A' w' r' h2 S')
def sseq (P:Program) (X:Cx) (ops:Array Oper) (h0:Nat):List Nat→List Prop→Act × Mem→Option (List Prop × Act × Mem)
 | [],qs,s=>some (qs,s)
 | i :: l,qs,s=>match sstep P X ops h0 i s with
  | some (ps,s')=>sseq P X ops h0 l (qs ++ ps) s'
  | none=>none
theorem zH {h0:Nat} {rs:List Prop} {out:Act × Mem} : ∀ (l:List Nat) (qs:List Prop) (s:Act × Mem),sseq P X ops h0 l qs s=some (rs,out) → ∀ p ∈ qs,p ∈ rs
 | [],qs,s,h,p,hp=>by simp only [sseq,qG,qH] at h;rw [←h.1];exact hp
 | i :: l,qs,s,h,p,hp=>by
  simp only [sseq] at h
  split at h
  ·exact zH l _ _ h p (by simp [hp])
  ·simp at h
theorem LS (hX:X.OkF P r₀ w₀) {h0:Nat} {out:Act × Mem} {rs:List Prop} (hrs : ∀ p ∈ rs,p) {Q:Exit→Act→World→Prop} (hQ : ∀ A w r,Sim X.gl r₀ w₀ out.1 out.2 A w r→Q .normal A w) :
  ∀ (l:List Nat) (qs:List Prop) (s:Act × Mem) (A:Act) (w:World) (r:Ren),sseq P X ops h0 l qs s=some (rs,out)→Sim X.gl r₀ w₀ s.1 s.2 A w r→wpOps P ops Q l A w:=by
 intro l
 induction l with
 | nil=>intro qs s A w r h S;simp only [sseq,qG,qH] at h;obtain ⟨_,rfl⟩:=h;exact hQ _ _ _ S
 | cons i l ih =>
  intro qs s A w r h S
  rw [wpOps_cons]
  simp only [sseq] at h
  split at h
  ·rename_i ps s' hs
   exact yI hX hs (fun p hp=>hrs p (zH l _ _ h p (by simp [hp]))) S (fun A' w' r' S'=>ih _ s' A' w' r' h S')
  ·simp at h
theorem Sim.draw (S:Sim gl r₀ w₀ a m A w r):Sim gl r₀ w₀ a m A { w with drawn:=w.drawn+1 } r :=
 ⟨S.rel.heap rfl,S.ext,⟨S.fr.os,S.fr.tape,S.fr.output,S.fr.size,S.fr.block⟩,S.size,S.tmps,S.defers,S.glob⟩
def ke (ops:Array Oper):List Nat:=ops.toList.filterMap fun o =>
 match o.op with
 | .indexAddr _ _ _=>o.dst
 | .fieldAddr _ _ _=>o.dst
 | .nilCheck _=>o.dst
 | .sliceToArrayPointer _ _=>o.dst
 | .alloc _=>o.dst
 | .box _ _=>o.dst
 | .buildSlice _ _ _=>o.dst
 | _=>none
def forgetL (a:Act):List Nat→Act
 | []=>a
 | t :: l=>forgetL (a.put (some t) cT) l
theorem Sim.forgetL : ∀ (l:List Nat) {a:Act},Sim gl r₀ w₀ a m A w r→Sim gl r₀ w₀ (forgetL a l) m A w r
 | [],_,S=>S
 | t :: l,_,S=>Sim.forgetL l (S.forget t)
def mJ (P:Program) (X:Cx) (ops:Array Oper) (draw:Bool) (s:Act × Mem):Option (List Prop × Act × Mem) :=
 if draw then
  srun P X (forgetL s.1 (ke ops)) ops s.2.length (ancs ops.toList []) ops.size (Array.replicate ops.size false) [] (forgetL s.1 (ke ops),s.2 ++ List.replicate (ops.toList.filter makes).length none)
 else sseq P X ops s.2.length (List.range ops.size) [] (s.1,s.2 ++ List.replicate (ops.toList.filter makes).length none)
theorem uG:jZ ops (Array.replicate ops.size false):=fun j o ho hl=>by
 have:=(YM.1 ho).1
 simp [this] at hl
theorem Ag (hX:X.OkF P r₀ w₀) (hm:P.follows .mixedOrders=true) {id:Nat} {draw:Bool} {rs:List Prop} {s out:Act × Mem} (h:mJ P X ops draw s=some (rs,out)) (hrs : ∀ p ∈ rs,p) (S:Sim X.gl r₀ w₀ s.1 s.2 A w r) {Q:Exit→Act→World→Prop}
  (hQ : ∀ A w r,Sim X.gl r₀ w₀ out.1 out.2 A w r→Q .normal A w):(Code.region id ops draw).wp P Q A w:=by
 unfold mJ at h
 cases draw with
 | true =>
  rw [if_pos rfl] at h
  have S2:=((S.forgetL (ke ops)).reserve (ops.toList.filter makes).length).draw
  have hk:=vx (ops:=ops) (a₀:=forgetL s.1 (ke ops)) (h0:=s.2.length)
  generalize forgetL s.1 (ke ops)=a1 at *
  generalize s.2 ++ List.replicate (ops.toList.filter makes).length none=m1 at *
  exact wp_region_any hm (Lq hX hQ _ _ (a1,m1) A _ r (Bw hX hrs _ _ _ (a1,m1) hk uG h).2 S2)
 | false =>
  rw [if_neg (by simp)] at h
  have S2:=S.reserve (ops.toList.filter makes).length
  generalize s.2 ++ List.replicate (ops.toList.filter makes).length none=m1 at *
  exact wp_region (LS hX hrs hQ _ _ (s.1,m1) A w r h S2)
end Go.Proofs.YtajehiidpecknaaGreatDoor
