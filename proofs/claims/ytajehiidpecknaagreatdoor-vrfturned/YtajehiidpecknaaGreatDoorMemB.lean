import Derived.Test.YtajehiidpecknaaGreatDoorMemA
import Derived.ChangeKeysEq
import Derived.Laws.StructEq
import Derived.Great.BuildSlice
set_option linter.all false
namespace Go.Proofs.YtajehiidpecknaaGreatDoor
open Go Go.RowKit
def pureRun {α:Type} (P:Program):Sem α→Option α
 | .pure a=>some a
 | .program k=>pureRun P (k P)
 | .mark _ k=>pureRun P k
 | _=>none
theorem eE {α:Type} {P:Program} : ∀ (s:Sem α) (a:α),pureRun P s=some a → ∀ w,s.run P w = .ok a w
 | .pure x,a,h,w=>by simp only [pureRun,qG] at h;subst h;rfl
 | .program k,a,h,w=>by simp only [pureRun] at h;simpa [Sem.run] using eE (k P) a h w
 | .mark m k,a,h,w=>by simp only [pureRun] at h;simpa [Sem.run] using eE k a h w
 | .load ..,_,h,_=>by simp [pureRun] at h
 | .store ..,_,h,_=>by simp [pureRun] at h
 | .new ..,_,h,_=>by simp [pureRun] at h
 | .shape ..,_,h,_=>by simp [pureRun] at h
 | .freeze ..,_,h,_=>by simp [pureRun] at h
 | .frozen ..,_,h,_=>by simp [pureRun] at h
 | .getObj ..,_,h,_=>by simp [pureRun] at h
 | .setObj ..,_,h,_=>by simp [pureRun] at h
 | .choose ..,_,h,_=>by simp [pureRun] at h
 | .sys ..,_,h,_=>by simp [pureRun] at h
 | .halt ..,_,h,_=>by simp [pureRun] at h
structure Cx where
 C:FuncId→List Value→Mem→Option (List Prop × Value)
 pf:FuncId→Bool
 sym:Bool
 dec:List (Nat × Bool)
 wf:FuncId→Bool
 W:FuncId→List Value→Mem→Option (List Prop × Value × Mem)
 gl:List Nat
 deci:List (Nat × Int)
def Cx.symSt (X:Cx):Bool:=X.dec.lookup 999999 == some true
def told (X:Cx) (o:Oper) (v:Value):List Prop × Value :=
 match v with
 | .bool x=>match o.dst.bind fun d=>X.dec.lookup d with
  | some b=>([x=b],.bool b)
  | none=>([],.bool x)
 | .int k x=>match o.dst.bind fun d=>X.deci.lookup d with
  | some c=>([x=c],.int k c)
  | none=>([],.int k x)
 | v=>([],v)
theorem Ai {X:Cx} {o:Oper} {v:Value} (h : ∀ p ∈ (told X o v).1,p):(told X o v).2=v:=by
 unfold told at *
 cases v with
 | bool x =>
  simp only at *
  split at h
  ·rename_i b hb
   have:x=b:=h _ (YJ.2 rfl)
   rw [this]
  ·rfl
 | int k x =>
  simp only at *
  split at h
  ·rename_i b hb
   have:x=b:=h _ (YJ.2 rfl)
   rw [this]
  ·rfl
 | _=>rfl
def blkAt:Value→Option (Nat × Nat)
 | .pointer (some ⟨b,o,none⟩)=>some (b,o)
 | _=>none
def okX (gl:List Nat) (ev:Operand→Value):Operand→Bool
 | .tmp t=>good (ev (.tmp t))
 | .const v=>flat v
 | .global g=>gl.contains g && decide (blkAt (ev (.global g))=some (g,0))
 | _=>false
def flatX (ev:Operand→Value):Operand→Bool
 | .tmp t=>flat (ev (.tmp t))
 | .const v=>flat v && flat (ev (.const v))
 | _=>false
def notTup:Value→Bool
 | .tuple vs=>vs.size == 1
 | _=>true
def rowT (P:Program) (t:TypeId):Option (Bool × Nat) :=
 match P.underlying t,P.info? t with
 | some d,some i=>some (d.isRow,i.size)
 | _,_=>none
def sload (P:Program) (t b o:Nat) (m:Mem):Option Value :=
 match bn m b,rowT P t with
 | some B,some (true,n)=>if o+n≤B.cells.length then some (.agg ((B.cells.drop o).take n).toArray) else none
 | some B,some (false,_)=>B.cells[o]?
 | _,_=>none
def j8 (l:List Value) (i:Nat):Int :=
 match l[i]? with
 | some (.int _ a)=>a
 | _=>0
def sloadX (P:Program) (sym:Bool) (t b o:Nat) (m:Mem):Option (List Prop × Value) :=
 match sym,P.underlying t,bn m b,P.info? t with
 | true,some (.int k),some B,some _=>some ([B.cells[o]? = some (.int k (j8 B.cells o))],.int k (j8 B.cells o))
 | _,_,_,_=>(sload P t b o m).map fun v=>([],v)
theorem tW {P:Program} {sym:Bool} {t b o:Nat} {m:Mem} {ps:List Prop} {v:Value} (h:sloadX P sym t b o m=some (ps,v)) (hp : ∀ p ∈ ps,p):sload P t b o m=some v:=by
 unfold sloadX at h
 split at h
 ·rename_i k B i hu hB hi
  simp only [qG,qH] at h
  obtain ⟨rfl,rfl⟩:=h
  have:=hp _ (YJ.2 rfl)
  unfold sload rowT
  simp only [hB,hu,hi,TypeDesc.isRow]
  exact this
 ·cases hs:sload P t b o m with
  | none=>simp [hs] at h
  | some u=>simp only [hs,YO,qG,qH] at h;rw [h.2]
theorem lZ {P:Program} {sym:Bool} {t b o:Nat} {m m':Mem} (h:bn m' b=bn m b):sloadX P sym t b o m'=sloadX P sym t b o m:=by
 unfold sloadX sload;rw [h]
theorem wJ {P:Program} {sym:Bool} {t b o:Nat} {m:Mem} {q:List Prop × Value} (h:sloadX P sym t b o m=some q) : ∃ B,bn m b=some B:=by
 unfold sloadX at h
 split at h
 ·exact ⟨_,by assumption⟩
 ·cases hs:sload P t b o m with
  | none=>simp [hs] at h
  | some u =>
   unfold sload at hs
   cases hb:bn m b with
   | none=>simp [hb] at hs
   | some B=>exact ⟨B,rfl⟩
def sstore (P:Program) (t b o:Nat) (v:Value) (m:Mem):Option Mem :=
 match bn m b,rowT P t with
 | some B,some (_,n)=>if v.cells.size=n∧o+n≤B.cells.length∧B.ty.fz=(0,0) then some (m.set b (some ⟨pJ B.cells o v.cells.toList,B.ty⟩)) else none
 | _,_=>none
def sstoreX (P:Program) (sym:Bool) (t b o:Nat) (v:Value) (m:Mem):Option (List Prop × Mem) :=
 match sym,bn m b,rowT P t with
 | true,some B,some (_,n)=>if B.ty.fz=(0,0) then some ([v.cells.size=n∧o+n≤B.cells.length],m.set b (some ⟨pJ B.cells o v.cells.toList,B.ty⟩)) else none
 | _,_,_=>(sstore P t b o v m).map fun m'=>([],m')
theorem rU {P:Program} {sym:Bool} {t b o:Nat} {v:Value} {m m':Mem} {ps:List Prop} (h:sstoreX P sym t b o v m=some (ps,m')) (hp : ∀ p ∈ ps,p):sstore P t b o v m=some m':=by
 unfold sstoreX at h
 split at h
 ·rename_i B d n hB hT
  split at h
  ·rename_i hz
   simp only [qG,qH] at h
   obtain ⟨rfl,rfl⟩:=h
   have:=hp _ (YJ.2 rfl)
   unfold sstore
   simp only [hB,hT,if_pos (And.intro this.1 (And.intro this.2 hz))]
  ·simp at h
 ·cases hs:sstore P t b o v m with
  | none=>simp [hs] at h
  | some u=>simp only [hs,YO,qG,qH] at h;rw [h.2]
theorem vc {P:Program} {sym:Bool} {t b o:Nat} {v:Value} {m m':Mem} {ps:List Prop} (h:sstoreX P sym t b o v m=some (ps,m')) : ∃ x,m'=m.set b x:=by
 unfold sstoreX at h
 split at h
 ·split at h
  ·simp only [qG,qH] at h;exact ⟨_,h.2.symm⟩
  ·simp at h
 ·cases hs:sstore P t b o v m with
  | none=>simp [hs] at h
  | some u =>
   simp only [hs,YO,qG,qH] at h
   obtain ⟨_,rfl⟩:=h
   unfold sstore at hs
   split at hs
   ·split at hs
    ·simp only [qG] at hs;exact ⟨_,hs.symm⟩
    ·simp at hs
   ·simp at hs
def isInt (k:IntKind):Value→Bool
 | .int k' _=>decide (k'=k)
 | _=>false
def iK (xs:Array Value) (i:Nat):Int :=
 match xs[i]? with
 | some (.int _ a)=>a
 | _=>0
def eqB (xs ys:Array Value) (n:Nat):Bool:=(List.range n).all fun i=>iK xs i == iK ys i
def seqv (P:Program) (t:TypeId):Value→Value→Option Bool
 | .agg xs,.agg ys=>match P.underlying t with
  | some (.array n e)=>match P.underlying e,P.info? e with
   | some (.int k),some i =>
    if i.size=1∧xs.size=n∧ys.size=n∧xs.toList.all (isInt k)=true∧ys.toList.all (isInt k)=true∧P.eqGuardType P.depth t=false then some (eqB xs ys n) else none
   | _,_=>none
  | _=>none
 | _,_=>none
def seqO (P:Program) (o:Oper) (ev:Operand→Value):Option Value :=
 match o.op with
 | .binOp .eql t x y _=>(seqv P t (ev x) (ev y)).map fun b => .bool b
 | .binOp .neq t x y _=>(seqv P t (ev x) (ev y)).map fun b => .bool (!b)
 | _=>none
theorem BJ {k:IntKind} {xs:Array Value} {i:Nat} (h:xs.toList.all (isInt k)=true) (hi:i<xs.size):xs[i]? = some (.int k (iK xs i)):=by
 have hm:xs[i]? = some xs[i]:=by simp [hi]
 have:=List.all_eq_true.1 h xs[i] (by simp)
 unfold iK
 rw [hm]
 generalize xs[i]=v at *
 cases v <;> simp [isInt] at this
 subst this;rfl
theorem ma {P:Program} {e:TypeId} {k:IntKind} {i:TypeInfo} (hu:P.underlying e=some (.int k)) (hi:P.info? e=some i) (hs:i.size=1) (xs ys:Array Value) (hx:xs.toList.all (isInt k)=true) (hy:ys.toList.all (isInt k)=true) (d:Nat) (w:World) : ∀ is:List Nat,(∀ i ∈ is,i<xs.size∧i<ys.size) →
  (Op.eqItems (d+1) e (P.cellsOf e) xs ys is).run P w = .ok (is.all fun i=>iK xs i == iK ys i) w
 | [],_=>by simp [Op.eqItems]
 | j :: is,h=>by
  obtain ⟨h1,h2⟩:=h j (by simp)
  have hc:P.cellsOf e=1:=by simp [Program.cellsOf,hi,hs]
  have part1 : ∀ zs:Array Value,zs.toList.all (isInt k)=true→j<zs.size→(part e zs j).run P w = .ok (.int k (iK zs j)) w:=fun zs hz hj=>by
   simp [part,isAgg,run_underlying hu,BJ hz hj]
  have ih:=ma hu hi hs xs ys hx hy d w is (fun q hq=>h q (by simp [hq]))
  rw [hc] at ih
  simp only [Op.eqItems,hc,Nat.mul_one,Sem.run_bind,part1 xs hx h1,part1 ys hy h2,Result.andThen_ok,run_equalIn_int w d e k k _ _ hu,List.all_cons]
  by_cases hq:(iK xs j == iK ys j)=true
  ·simp [hq,ih]
  ·simp [hq]
theorem ue {P:Program} {t:TypeId} {x y:Value} {b:Bool} (h:seqv P t x y=some b) (w:World) :
  (Op.equal t x y).run P w = .ok b w ∧ ∀ (op:BinOp) (p q:Operand),(eqGuard op t p q x y).run P w = .ok () w:=by
 unfold seqv at h
 split at h
 ·rename_i xs ys
  split at h
  ·rename_i n e hu
   split at h
   ·rename_i k i hue hi
    split at h
    ·rename_i hc
     obtain ⟨c1,c2,c3,c4,c5,c6⟩:=hc
     simp only [qG] at h;subst h
     refine ⟨?_,fun op p q => ?_⟩
     ·show (Op.equalIn (9999+1) t (.agg xs) (.agg ys)).run P w=_
      rw [run_equalIn_array w 9999 xs ys hu hi]
      exact ma hue hi c1 xs ys c4 c5 9998 w _ (fun i hi=>by rw [List.mem_range] at hi;omega)
     ·unfold eqGuard
      cases op <;> simp [c6]
    ·simp at h
   ·simp at h
  ·simp at h
 ·simp at h
theorem Dp {P:Program} {o:Oper} {ev:Operand→Value} {v:Value} (h:seqO P o ev=some v) (w:World):(execOp ev o).run P w = .ok (.value v) w∧flat v=true:=by
 unfold seqO at h
 split at h
 ·rename_i t x y ty ho
  cases hs:seqv P t (ev x) (ev y) with
  | none=>simp [hs] at h
  | some b =>
   simp only [hs,YO,qG] at h;subst h
   obtain ⟨h1,h2⟩:=ue hs w
   refine ⟨?_,rfl⟩
   have hb:binOp .eql t (ev x) (ev y)=(do pure (.bool (←Op.equal t (ev x) (ev y)))):=by
    unfold seqv at hs
    split at hs
    ·rename_i e1 e2;rw [e1,e2];rfl
    ·simp at hs
   simp only [execOp,ho,Sem.run_bind,h2,Result.andThen_ok,hb,h1,Sem.run_pure]
 ·rename_i t x y ty ho
  cases hs:seqv P t (ev x) (ev y) with
  | none=>simp [hs] at h
  | some b =>
   simp only [hs,YO,qG] at h;subst h
   obtain ⟨h1,h2⟩:=ue hs w
   refine ⟨?_,rfl⟩
   have hb:binOp .neq t (ev x) (ev y)=(do pure (.bool (!(←Op.equal t (ev x) (ev y))))):=by
    unfold seqv at hs
    split at hs
    ·rename_i e1 e2;rw [e1,e2];rfl
    ·simp at hs
   simp only [execOp,ho,Sem.run_bind,h2,Result.andThen_ok,hb,h1,Sem.run_pure]
 ·simp at h
def sshift (sym:Bool) (o:Oper) (ev:Operand→Value):Option (List Prop × Value) :=
 match sym,o.op with
 | true,.binOp .shl _ x y _=>match ev x,ev y with
  | .int k a,.int _ c=>some ([0≤c],.int k (k.wrap (a*2 ^ min c.toNat k.bits)))
  | _,_=>none
 | true,.binOp .shr _ x y _=>match ev x,ev y with
  | .int k a,.int _ c=>some ([0≤c],.int k (a.fdiv (2 ^ min c.toNat k.bits)))
  | _,_=>none
 | _,_=>none
theorem yk {P:Program} {sym:Bool} {o:Oper} {ev:Operand→Value} {ps:List Prop} {v:Value} (h:sshift sym o ev=some (ps,v)) (hp : ∀ p ∈ ps,p) (w:World):(execOp ev o).run P w = .ok (.value v) w∧flat v=true:=by
 unfold sshift at h
 split at h
 ·rename_i t x y ty ho
  split at h
  ·rename_i k a k' c hx hy
   simp only [qG,qH] at h
   obtain ⟨rfl,rfl⟩:=h
   have hc : ¬ c<0:=by have:=hp _ (YJ.2 rfl);omega
   refine ⟨?_,rfl⟩
   simp only [execOp,ho,hx,hy,Sem.run_bind,eqGuard]
   simp [binOp,Op.shift,hc]
  ·simp at h
 ·rename_i t x y ty ho
  split at h
  ·rename_i k a k' c hx hy
   simp only [qG,qH] at h
   obtain ⟨rfl,rfl⟩:=h
   have hc : ¬ c<0:=by have:=hp _ (YJ.2 rfl);omega
   refine ⟨?_,rfl⟩
   simp only [execOp,ho,hx,hy,Sem.run_bind,eqGuard]
   simp [binOp,Op.shift,hc]
  ·simp at h
 ·simp at h
def spure (P:Program) (sym:Bool) (o:Oper) (ev:Operand→Value) (m:Mem):Option (List Prop × Value × Mem) :=
 match o.op with
 | .select .. => none
 | op =>
  if op.operands.toList.all (flatX ev) then
   match sshift sym o ev with
   | some (ps,v)=>some (ps,v,m)
   | none=>match seqO P o ev with
    | some v=>some ([],v,m)
    | none=>match pureRun P (execOp ev o) with
     | some (.value v)=>if flat v then some ([],v,m) else none
     | _=>none
  else none
def within (sym:Bool) (n:Int) (len:Nat):Option (List Prop) :=
 if sym then some [0≤n∧n<len] else if 0≤n∧n<len then some [] else none
theorem mc {sym:Bool} {n:Int} {len:Nat} {ps:List Prop} (h:within sym n len=some ps) (hp : ∀ p ∈ ps,p):0≤n∧n<len:=by
 unfold within at h
 cases sym
 ·simp only [Bool.false_eq_true,if_false] at h
  split at h
  ·assumption
  ·simp at h
 ·simp only [if_true,qG] at h
  subst h
  exact hp _ (by simp)
def sindex (P:Program) (sym:Bool) (t:TypeId) (x i:Value):Option (List Prop × Value) :=
 match P.underlying t,x,i with
 | some (.array len elem),.pointer (some ⟨b,o,none⟩),.int _ n =>
  match within sym n len,P.info? elem with
  | some ps,some e=>some (ps,.pointer (some ⟨b,o+n.toNat*e.size,none⟩))
  | _,_=>none
 | some (.slice elem),.slice (some ⟨b,o,none⟩) len _,.int _ n =>
  match within sym n len,P.info? elem with
  | some ps,some e=>some (ps,.pointer (some ⟨b,o+n.toNat*e.size,none⟩))
  | _,_=>none
 | _,_,_=>none
def sfield (P:Program) (t:TypeId) (x:Value) (i:Nat):Option Value :=
 match P.underlying t,x with
 | some (.struct fs),.pointer (some ⟨b,o,none⟩)=>match fs[i]? with
  | some f=>match P.info? f.type with
   | some e=>if e.size=0 then none else some (.pointer (some ⟨b,o+f.offset,none⟩))
   | none=>none
  | none=>none
 | _,_=>none
def sslice (P:Program) (t:TypeId) (x:Value) (lo hi:Option Value):Option Value :=
 match P.underlying t,x with
 | some (.array n elem),.pointer (some ⟨b,o,none⟩) =>
  match pureRun P (Instr.sliceBounds false n n lo hi none),P.info? elem with
  | some (l,h,m),some e=>some (.slice (some ⟨b,if m=l then o else o+l*e.size,none⟩) (h - l) (m - l))
  | _,_=>none
 | some (.slice elem),.slice (some ⟨b,o,none⟩) len cap =>
  match pureRun P (Instr.sliceBounds true len cap lo hi none),P.info? elem with
  | some (l,h,m),some e=>some (.slice (some ⟨b,if m=l then o else o+l*e.size,none⟩) (h - l) (m - l))
  | _,_=>none
 | _,_=>none
def symB (x:Option Value) (dflt most:Nat):Option (List Prop × Nat) :=
 match x with
 | none=>some ([],dflt)
 | some (.int _ n)=>some ([0≤n∧n≤most],n.toNat)
 | _=>none
def symBounds (len cap:Nat) (lo hi:Option Value):Option (List Prop × Nat × Nat) :=
 match symB hi len cap with
 | some (ps,h)=>match symB lo 0 h with
  | some (qs,l)=>some (ps ++ qs,l,h)
  | none=>none
 | none=>none
theorem fT {P:Program} {sl:Bool} {len cap l h:Nat} {lo hi:Option Value} {ps:List Prop} (hb:symBounds len cap lo hi=some (ps,l,h)) (hp : ∀ p ∈ ps,p) (w:World) :
  (Instr.sliceBounds sl len cap lo hi none).run P w = .ok (l,h,cap) w:=by
 unfold symBounds at hb
 split at hb
 ·rename_i qs h' hh
  split at hb
  ·rename_i ts l' hl
   simp only [qG,qH] at hb
   obtain ⟨rfl,rfl,rfl⟩:=hb
   unfold symB at hh hl
   split at hh
   ·simp only [qG,qH] at hh
    obtain ⟨rfl,rfl⟩:=hh
    split at hl
    ·simp only [qG,qH] at hl
     obtain ⟨rfl,rfl⟩:=hl
     simp [Instr.sliceBounds]
    ·rename_i k n
     simp only [qG,qH] at hl
     obtain ⟨rfl,rfl⟩:=hl
     have h1:=hp _ (List.mem_append_right _ (YJ.2 rfl))
     simp [Instr.sliceBounds,Instr.sliceBound,asIntOf,h1]
    ·simp at hl
   ·rename_i k n
    simp only [qG,qH] at hh
    obtain ⟨rfl,rfl⟩:=hh
    have h0:=hp _ (List.mem_append_left _ (YJ.2 rfl))
    split at hl
    ·simp only [qG,qH] at hl
     obtain ⟨rfl,rfl⟩:=hl
     simp [Instr.sliceBounds,Instr.sliceBound,asIntOf,h0]
    ·rename_i k' n'
     simp only [qG,qH] at hl
     obtain ⟨rfl,rfl⟩:=hl
     have h1:=hp _ (List.mem_append_right _ (YJ.2 rfl))
     simp only [Instr.sliceBounds,Instr.sliceBound,asIntOf,Sem.run_bind,Sem.run_pure,Result.andThen_ok,if_pos h0,if_pos h1]
    ·simp at hl
   ·simp at hh
  ·simp at hb
 ·simp at hb
def ssliceX (P:Program) (sym:Bool) (t:TypeId) (x:Value) (lo hi:Option Value):Option (List Prop × Value) :=
 match sym,P.underlying t,x with
 | true,some (.array n elem),.pointer (some ⟨b,o,none⟩) =>
  match symBounds n n lo hi,P.info? elem with
  | some (ps,l,h),some e=>some (ps,.slice (some ⟨b,if n=l then o else o+l*e.size,none⟩) (h - l) (n - l))
  | _,_=>none
 | true,some (.slice elem),.slice (some ⟨b,o,none⟩) len cap =>
  match symBounds len cap lo hi,P.info? elem with
  | some (ps,l,h),some e=>some (ps,.slice (some ⟨b,if cap=l then o else o+l*e.size,none⟩) (h - l) (cap - l))
  | _,_=>none
 | true,some (.slice elem),.slice none len cap =>
  match symBounds len cap lo hi,P.info? elem with
  | some (ps,l,h),some _=>some (ps,.slice none (h - l) (cap - l))
  | _,_=>none
 | _,_,_=>(sslice P t x lo hi).map fun v=>([],v)
def slen (P:Program) (t:TypeId) (x:Value):Option Value :=
 match P.underlying t,x with
 | some .string,.string s=>some (goInt s.size)
 | some (.array n _),_=>some (goInt n)
 | some (.slice _),.slice _ n _=>some (goInt n)
 | some (.slice _),.tuple ⟨[.slice _ n _]⟩=>some (goInt n)
 | _,_=>none
def scopy (P:Program) (dT:TypeId) (d s:Value) (m:Mem):Option (Value × Mem) :=
 match P.underlying dT,d,s with
 | some (.slice elem),.slice (some ⟨b,o,none⟩) dl _,.slice (some ⟨b',o',none⟩) sl _ =>
  match P.info? elem,bn m b,bn m b' with
  | some e,some B,some B' =>
   if e.size=1∧B.ty.fz=(0,0)∧o+Nat.min sl dl≤B.cells.length∧o'+Nat.min sl dl≤B'.cells.length then
    some (goInt (Nat.min sl dl),m.set b (some ⟨setL B.cells o ((B'.cells.drop o').take (Nat.min sl dl)),B.ty⟩))
   else none
  | _,_,_=>none
 | some (.slice elem),.slice (some ⟨b,o,none⟩) dl _,.slice none 0 _ =>
  match P.info? elem,bn m b with
  | some _,some _=>some (goInt 0,m)
  | _,_=>none
 | _,_,_=>none
def scopyX (P:Program) (sym:Bool) (dT:TypeId) (d s:Value) (m:Mem):Option (List Prop × Value × Mem) :=
 match sym,P.underlying dT,d,s with
 | true,some (.slice elem),.slice (some ⟨b,o,none⟩) dl _,.slice (some ⟨b',o',none⟩) sl _ =>
  match P.info? elem,bn m b,bn m b' with
  | some e,some B,some B'=>if e.size=1∧B.ty.fz=(0,0) then
    some ([o+Nat.min sl dl≤B.cells.length∧o'+Nat.min sl dl≤B'.cells.length],goInt (Nat.min sl dl),m.set b (some ⟨setL B.cells o ((B'.cells.drop o').take (Nat.min sl dl)),B.ty⟩))
   else none
  | _,_,_=>none
 | _,_,_,_=>(scopy P dT d s m).map fun q=>([],q.1,q.2)
theorem tL {P:Program} {sym:Bool} {dT:TypeId} {d s v:Value} {m m':Mem} {ps:List Prop} (h:scopyX P sym dT d s m=some (ps,v,m')) (hp : ∀ p ∈ ps,p):scopy P dT d s m=some (v,m'):=by
 unfold scopyX at h
 split at h
 ·rename_i elem b o dl dc b' o' sl sc hu
  split at h
  ·rename_i e B B' he hB hB'
   split at h
   ·rename_i h1
    simp only [qG,qH] at h
    obtain ⟨rfl,rfl,rfl⟩:=h
    have:=hp _ (YJ.2 rfl)
    unfold scopy
    simp only [hu,he,hB,hB',if_pos (show e.size=1∧B.ty.fz=(0,0)∧o+Nat.min sl dl≤B.cells.length∧o'+Nat.min sl dl≤B'.cells.length from ⟨h1.1,h1.2,this⟩)]
   ·simp at h
  ·simp at h
 ·simp only [Option.map_eq_some_iff] at h
  obtain ⟨q,hq,hq2⟩:=h
  simp only [qH] at hq2
  rw [←hq2.2.1,←hq2.2.2]
  exact hq
def oneV:Value→Bool
 | .agg _=>false
 | .tuple vs=>vs.size == 1
 | _=>true
def sbuild (P:Program) (gl:List Nat) (id:Nat) (t:TypeId) (len:Nat) (parts:List (Nat × Operand)) (ev:Operand→Value) (m:Mem):Option (List Prop × Value × Mem) :=
 match P.underlying t,m[id]? with
 | some (.slice e),some none=>match P.info? e with
  | some i=>if i.size=1∧i.zero.isSome=true∧len≤1000∧parts.map (·.1)=List.range' 0 len∧parts.all (fun p=>okX gl ev p.2 && oneV (ev p.2))=true then
    some ([],.slice (some ⟨id,0,none⟩) len len,m.set id (some ⟨parts.map fun p=>ev p.2,⟨e,(0,0)⟩⟩))
   else none
  | none=>none
 | _,_=>none
def sarrp (P:Program) (t:TypeId) (x:Value):Option Value :=
 match P.underlying t,x with
 | some (.array n _),.slice (some ⟨b,o,none⟩) len _=>if n≤len then some (.pointer (some ⟨b,o,none⟩)) else none
 | _,_=>none
def sop (P:Program) (X:Cx) (id:Nat) (o:Oper) (ev:Operand→Value) (m:Mem):Option (List Prop × Value × Mem) :=
 match o.op with
 | .move x=>if okX X.gl ev x then some ([],ev x,m) else none
 | .assign x=>if okX X.gl ev x then some ([],ev x,m) else none
 | .alloc t =>
  match P.info? t,m[id]? with
  | some i,some none=>match i.zero with
   | some z=>if flat2 z then some ([],.pointer (some ⟨id,0,none⟩),m.set id (some ⟨z.cells.toList,⟨t,(0,0)⟩⟩)) else none
   | none=>none
  | _,_=>none
 | .box t x=>match m[id]? with
  | some none=>if okX X.gl ev x && notTup (ev x) then some ([],.pointer (some ⟨id,0,none⟩),m.set id (some ⟨(ev x).cells.toList,⟨t,(0,0)⟩⟩)) else none
  | _=>none
 | .load t x =>
  if okX X.gl ev x then
   match ev x with
   | .pointer (some ⟨b,o,none⟩)=>(sloadX P X.sym t b o m).map fun q=>(q.1,q.2,m)
   | _=>none
  else none
 | .store t x y =>
  if okX X.gl ev x && okX X.gl ev y && notTup (ev y) then
   match ev x with
   | .pointer (some ⟨b,o,none⟩)=>(sstoreX P X.symSt t b o (ev y) m).map fun q=>(q.1,undef,q.2)
   | _=>none
  else none
 | .indexAddr t x i=>if okX X.gl ev x && flatX ev i then (sindex P X.sym t (ev x) (ev i)).map fun q=>(q.1,q.2,m) else none
 | .fieldAddr t x i=>if okX X.gl ev x then (sfield P t (ev x) i).map fun v=>([],v,m) else none
 | .nilCheck x=>if okX X.gl ev x then
   match ev x with
   | .pointer (some p)=>some ([],.pointer (some p),m)
   | _=>spure P X.sym o ev m
  else none
 | .slice t x lo hi none=>if okX X.gl ev x && lo.all (flatX ev) && hi.all (flatX ev) then (ssliceX P X.sym t (ev x) (lo.map ev) (hi.map ev)).map fun q=>(q.1,q.2,m) else none
 | .call ⟨.value (.func f),args,_⟩=>if args.toList.all (okX X.gl ev) then
   if X.wf f then X.W f (args.toList.map ev) m else (X.C f (args.toList.map ev) m).map fun q=>(q.1,q.2,m)
  else none
 | .call ⟨.builtin .copy,args,ts⟩=>match args.toList,ts.toList with
  | [x,y],[dT,_]=>if okX X.gl ev x && okX X.gl ev y then scopyX P X.sym dT (ev x) (ev y) m else none
  | _,_=>none
 | .call ⟨.builtin .len,args,ts⟩=>match args.toList,ts.toList with
  | [x],[t]=>if okX X.gl ev x then (slen P t (ev x)).map fun v=>([],v,m) else none
  | _,_=>none
 | .buildSlice t len parts=>sbuild P X.gl id t len parts.toList ev m
 | .sliceToArrayPointer t x=>if okX X.gl ev x then (sarrp P t (ev x)).map fun v=>([],v,m) else none
 | _=>spure P X.sym o ev m
def ix (P:Program) (f:FuncId) (args:Array Value) (w:World) (R:Value→World→Prop):Prop :=
 (∃ v w',(callFunc f args).run P w = .ok (.value v) w'∧R v w') ∨
 ((callFunc f args).run P w = .ok (.enter f args) w∧Calls P f args w fun e w' => ∃ v,e = .returned v∧R v w')
structure Cx.Ok (X:Cx) (P:Program):Prop where
 wcall : ∀ f args m ps v m',X.W f args m=some (ps,v,m')→(∀ p ∈ ps,p) → ∀ r w args',Rel r m w→(∀ g ∈ X.gl,r g=some g)→trL (tr r) args=some args'→ix P f args'.toArray w fun v' w'=>tr r v=some v'∧Rel r m' w'∧Fr r w w'
 call : ∀ f args m ps v,X.C f args m=some (ps,v)→(∀ p ∈ ps,p) → ∀ r w args',Rel r m w→(∀ g ∈ X.gl,r g=some g)→trL (tr r) args=some args'→ix P f args'.toArray w fun v' w'=>tr r v=some v'∧Below w.heap.size w w'
 pure : ∀ f,X.pf f=true → ∀ args m m',X.C f args m=X.C f args m'
 more : ∀ f args (m:Mem) q i B,m[i]? = some none→X.C f args m=some q→X.C f args (m.set i (some B))=some q
structure Cx.OkF (X:Cx) (P:Program) (r₀:Ren) (w₀:World):Prop where
 wcall : ∀ f args m ps v m',X.W f args m=some (ps,v,m')→(∀ p ∈ ps,p) → ∀ r w args',Rel r m w→Fr r₀ w₀ w→(∀ b c,r b=some c→r₀ b=some c∨w₀.heap.size≤c)→(∀ g ∈ X.gl,r g=some g)→trL (tr r) args=some args'→ix P f args'.toArray w fun v' w'=>tr r v=some v'∧Rel r m' w'∧Fr r w w'
 call : ∀ f args m ps v,X.C f args m=some (ps,v)→(∀ p ∈ ps,p) → ∀ r w args',Rel r m w→Fr r₀ w₀ w→(∀ b c,r b=some c→r₀ b=some c∨w₀.heap.size≤c)→(∀ g ∈ X.gl,r g=some g)→trL (tr r) args=some args'→ix P f args'.toArray w fun v' w'=>tr r v=some v'∧Below w.heap.size w w'
 pure : ∀ f,X.pf f=true → ∀ args m m',X.C f args m=X.C f args m'
 more : ∀ f args (m:Mem) q i B,m[i]? = some none→X.C f args m=some q→X.C f args (m.set i (some B))=some q
theorem Cx.Ok.f {X:Cx} {P:Program} (h:X.Ok P) {r₀:Ren} {w₀:World} : X.OkF P r₀ w₀ :=
 ⟨fun f args m ps v m' hc hp r w args' hr _ _ hgl ha=>h.wcall f args m ps v m' hc hp r w args' hr hgl ha,fun f args m ps v hc hp r w args' hr _ _ hgl ha=>h.call f args m ps v hc hp r w args' hr hgl ha,h.pure,h.more⟩
structure Sim (gl:List Nat) (r₀:Ren) (w₀:World) (a:Act) (m:Mem) (A:Act) (w:World) (r:Ren):Prop where
 rel:Rel r m w
 ext:Le r₀ r ∧ ∀ b c,r b=some c→r₀ b=some c∨w₀.heap.size≤c
 fr:Fr r₀ w₀ w
 size:A.tmps.size=a.tmps.size
 tmps : ∀ t,a.eval (.tmp t)=cT∨tr r (a.eval (.tmp t))=some (A.eval (.tmp t))
 defers:A.defers=a.defers
 glob : ∀ g ∈ gl,r g=some g
variable {gl:List Nat} {r₀ r:Ren} {w₀ w:World} {a A:Act} {m:Mem} {P:Program} {X:Cx}
theorem dk (r:Ren):tr r undef=some undef:=rfl
theorem Sim.eval (S:Sim gl r₀ w₀ a m A w r) {x:Operand} (h:okX gl a.eval x=true):tr r (a.eval x)=some (A.eval x):=by
 cases x with
 | tmp t =>
  rcases S.tmps t with e | e
  ·exact absurd e (Hl h)
  ·exact e
 | const v=>exact cd r v h
 | global g =>
  simp only [okX,Bool.and_eq_true] at h
  have:=S.glob g (by simpa using h.1)
  simp [Act.eval,tr,tr2,tr1,this]
 | func f=>simp [okX] at h
theorem tI {v:Value} (h:flat v=true):good v=true:=by
 unfold good
 split
 ·simp [flat,flat2,flat1] at h
 ·rfl
theorem tz {gl:List Nat} {ev:Operand→Value} {x:Operand} (h:flatX ev x=true):okX gl ev x=true:=by
 cases x with
 | tmp t=>exact tI h
 | const v=>simp only [flatX,Bool.and_eq_true] at h;exact h.1
 | global g=>simp [flatX] at h
 | func f=>simp [flatX] at h
theorem Sim.evalFlat (S:Sim gl r₀ w₀ a m A w r) {x:Operand} (h:flatX a.eval x=true):A.eval x=a.eval x:=by
 have h1:=S.eval (tz (gl:=gl) h)
 cases x with
 | tmp t=>simp only [flatX] at h;rw [cd r _ h] at h1;exact (Option.some.inj h1).symm
 | const v=>rfl
 | global g=>simp [flatX] at h
 | func f=>simp [flatX] at h
theorem Sim.evals (S:Sim gl r₀ w₀ a m A w r) : ∀ {xs:List Operand},xs.all (okX gl a.eval)=true→trL (tr r) (xs.map a.eval)=some (xs.map A.eval)
 | [],_=>rfl
 | x :: xs,h=>by
  simp only [List.all_cons,Bool.and_eq_true] at h
  exact cO (S.eval h.1) (Sim.evals S h.2)
theorem eval_put (a:Act) (d:Nat) (v:Value) (t:Nat):(a.put (some d) v).eval (.tmp t)=if d=t then (if d<a.tmps.size then v else undef) else a.eval (.tmp t):=by
 simp only [Act.put,Act.eval,Array.getD_eq_getD_getElem?,Array.getElem?_setIfInBounds]
 by_cases h:d=t
 ·subst h
  rw [if_pos rfl,if_pos rfl]
  by_cases hl:d<a.tmps.size
  ·simp [hl]
  ·simp [hl]
 ·rw [if_neg h,if_neg h]
theorem Sim.put (S:Sim gl r₀ w₀ a m A w r) {r':Ren} {m':Mem} {w':World} {v v':Value} (hr:Rel r' m' w') (hl:Le r r') (hn : ∀ b c,r' b=some c→r b=some c∨w₀.heap.size≤c) (hf:Fr r₀ w₀ w')
  (hv:tr r' v=some v') (d:Option Tmp):Sim gl r₀ w₀ (a.put d v) m' (A.put d v') w' r':=by
 obtain ⟨e1,e2⟩:=S.ext
 refine ⟨hr,⟨e1.trans hl,fun b c h => ?_⟩,hf,?_,fun t => ?_,?_,fun g hg=>hl g g (S.glob g hg)⟩
 ·rcases hn b c h with h | h
  ·exact e2 b c h
  ·exact .inr h
 ·cases d <;> simp [Act.put,S.size]
 ·have old:a.eval (.tmp t)=cT∨tr r' (a.eval (.tmp t))=some (A.eval (.tmp t)):=(S.tmps t).imp id (IM hl _ _)
  cases d with
  | none=>exact old
  | some d =>
   rw [eval_put,eval_put,S.size]
   by_cases h:d=t
   ·rw [if_pos h,if_pos h]
    split
    ·exact .inr hv
    ·exact .inr (dk _)
   ·rw [if_neg h,if_neg h];exact old
 ·cases d <;> exact S.defers
theorem Sim.put0 (S:Sim gl r₀ w₀ a m A w r) {v v':Value} (hv:tr r v=some v') (d:Option Tmp):Sim gl r₀ w₀ (a.put d v) m (A.put d v') w r :=
 S.put S.rel (Le.refl _) (fun _ _ h => .inl h) S.fr hv d
theorem Sim.forget (S:Sim gl r₀ w₀ a m A w r) (t:Nat):Sim gl r₀ w₀ (a.put (some t) cT) m A w r:=by
 refine ⟨S.rel,S.ext,S.fr,by simp [Act.put,S.size],fun k => ?_,S.defers,S.glob⟩
 rw [eval_put]
 by_cases h:t=k
 ·rw [if_pos h]
  by_cases hl:t<a.tmps.size
  ·rw [if_pos hl];exact .inl rfl
  ·rw [if_neg hl]
   refine .inr ?_
   subst h
   have:A.eval (.tmp t)=undef:=by simp [Act.eval,Array.getElem?_eq_none (show A.tmps.size≤t by rw [S.size];omega)]
   rw [this];exact dk _
 ·rw [if_neg h];exact S.tmps k
theorem Sim.reserve (S:Sim gl r₀ w₀ a m A w r) (k:Nat):Sim gl r₀ w₀ a (m ++ List.replicate k none) A w r :=
 ⟨S.rel.reserve k,S.ext,S.fr,S.size,S.tmps,S.defers,S.glob⟩
theorem bB {o:Oper} {v:Value} {w':World} {K:Act→World→Prop} {Q:Exit→Act→World→Prop} (hr:(execOp A.eval o).run P w = .ok (.value v) w') (h:K (A.put o.dst v) w'):o.wp P A w K Q:=by
 unfold Oper.wp;rw [hr];exact h
theorem xL {o:Oper} {w':World} {K:Act→World→Prop} {Q:Exit→Act→World→Prop} (hr:(execOp A.eval o).run P w = .ok .skip w') (h:K (A.put o.dst undef) w'):o.wp P A w K Q:=by
 unfold Oper.wp;rw [hr];exact h
theorem jK {v:Value} {b o:Nat} (h:tr r (.pointer (some ⟨b,o,none⟩))=some v) : ∃ c,r b=some c∧v = .pointer (some ⟨c,o,none⟩):=by
 simp only [tr,tr2,tr1] at h
 cases hb:r b with
 | none=>simp [hb] at h
 | some c=>simp only [hb,YO,qG] at h;exact ⟨c,rfl,h.symm⟩
theorem eD {v:Value} {b o l k:Nat} (h:tr r (.slice (some ⟨b,o,none⟩) l k)=some v) : ∃ c,r b=some c∧v = .slice (some ⟨c,o,none⟩) l k:=by
 simp only [tr,tr2,tr1] at h
 cases hb:r b with
 | none=>simp [hb] at h
 | some c=>simp only [hb,YO,qG] at h;exact ⟨c,rfl,h.symm⟩
theorem fa {b c o:Nat} (h:r b=some c):tr r (.pointer (some ⟨b,o,none⟩))=some (.pointer (some ⟨c,o,none⟩)):=by
 simp [tr,tr2,tr1,h]
theorem cV {b c o l k:Nat} (h:r b=some c):tr r (.slice (some ⟨b,o,none⟩) l k)=some (.slice (some ⟨c,o,none⟩) l k):=by
 simp [tr,tr2,tr1,h]
theorem wY {v v':Value} (hn:notTup v=true) (h:tr r v=some v'):tr2 r v=some v':=by
 unfold tr at h
 split at h
 ·simp only [notTup,beq_iff_eq] at hn
  rw [if_pos hn] at h;exact h
 ·exact h
theorem qZ {v v':Value} (h:tr2 r v=some v'):tr r v=some v':=by
 unfold tr
 split
 ·rename_i vs
  have h':tr1 r (.tuple vs)=some v':=h
  have hs:vs.size=1:=by
   simp only [tr1] at h'
   split at h'
   ·rename_i e
    have:=congrArg List.length e
    simpa using this
   ·simp at h'
  rw [if_pos hs];exact h'
 ·exact h
theorem wH {v v':Value} (h:tr1 r v=some v'):tr2 r v=some v':=by
 unfold tr2
 split
 ·simp [tr1,flat1] at h
 ·exact h
theorem uD (R:Rel r m w) {t b c o:Nat} {v:Value} (hb:r b=some c) (h:sload P t b o m=some v) :
  ∃ v',tr r v=some v'∧(loadVar t ⟨c,o,none⟩).run P w = .ok v' w:=by
 unfold sload at h
 split at h
 ·rename_i B n hB hT
  split at h
  ·rename_i hlen
   simp only [qG] at h;subst h
   obtain ⟨c',cs,h1,h2,h3⟩:=R.cells b B hB
   rw [hb] at h1;cases h1
   have e2:=pa n (nR o h2)
   refine ⟨.agg ((cs.drop o).take n).toArray,qZ (by simp [tr2,e2]),?_⟩
   unfold rowT at hT
   split at hT
   ·rename_i d i hu hi
    simp only [qG,qH] at hT
    have hl:=eQ h2
    refine run_loadVar_mid w c o t _ d ?_ hu hT.1 ?_
    ·intro j u hu
     rw [List.getElem?_take] at hu
     split at hu
     ·rw [List.getElem?_drop] at hu
      simp [World.cell?,h3,hu]
     ·simp at hu
    ·rw [hi];simp [hT.2];omega
   ·simp at hT
  ·simp at h
 ·rename_i B n hB hT
  obtain ⟨c',cs,h1,h2,h3⟩:=R.cells b B hB
  rw [hb] at h1;cases h1
  obtain ⟨v',h4,h5⟩:=tj h2 h
  refine ⟨v',qZ (wH h4),?_⟩
  unfold rowT at hT
  split at hT
  ·rename_i d i hu hi
   simp only [qG,qH] at hT
   have hagg:(isAgg t).run P w = .ok false w:=by
    unfold isAgg
    rw [Sem.run_bind,run_underlying hu w]
    cases d <;> simp_all
   have hc:w.cell? ⟨c,o,none⟩=some v':=by simp [World.cell?,h3,h5]
   simp [loadVar,hagg,hc]
  ·simp at hT
 ·simp at h
theorem AW (R:Rel r m w) {t b c o:Nat} {v v':Value} {m':Mem} (hb:r b=some c) (hv:tr2 r v=some v') (h:sstore P t b o v m=some m') :
  (storeVar t ⟨c,o,none⟩ v').run P w = .ok () (w.setCells c o v'.cells.toList)∧Rel r m' (w.setCells c o v'.cells.toList):=by
 unfold sstore at h
 split at h
 ·rename_i B d0 n hB hT
  split at h
  ·rename_i hlen
   simp only [qG] at h;subst h
   have hcs:=ll hv
   have hput:pJ B.cells o v.cells.toList=setL B.cells o v.cells.toList:=(vG _ _ _ (by rw [Array.length_toList];omega)).symm
   rw [hput]
   refine ⟨?_,R.store hB hb o hcs⟩
   obtain ⟨c',cs,h1,h2,h3⟩:=R.cells b B hB
   rw [hb] at h1;cases h1
   have hl:=eQ h2
   have hl':=eQ hcs
   simp only [Array.length_toList] at hl'
   unfold rowT at hT
   split at hT
   ·rename_i d i hu hi
    simp only [qG,qH] at hT
    have hst:=run_storeCells_cells (P:=P) c o v'.cells.toList 0 w (fun j hj=>by
      simp only [Array.length_toList] at hj
      have:o+0+j<cs.length:=by omega
      simp only [World.cell?,h3,Option.isSome_none,Bool.false_eq_true,if_false]
      simp only [List.getElem?_toArray,List.getElem?_eq_getElem this,Option.isSome_some]) (fun j hj=>by simp [World.frozen?,h3,hlen.2.2])
     (fun u hu=>by obtain ⟨x,hx⟩:=mG hcs u hu;exact nc hx)
    simp only [Nat.add_zero] at hst
    have hs:v'.cells.size=i.size:=by omega
    simp [storeVar,sizeOf,typeInfo,hi,hs,hst]
   ·simp at hT
  ·simp at h
 ·simp at h
theorem mg {r₀:Ren} {w₀ w:World} (h:Fr r₀ w₀ w) {c:Nat} (hc:(∃ b:Nat,r₀ b=some c)∨w₀.heap.size≤c) (o:Nat) (vs:List Value):Fr r₀ w₀ (w.setCells c o vs):=by
 obtain ⟨e1,e2,e3⟩:=jC c vs o w
 refine ⟨e1.trans h.os,e2.trans h.tape,e3.trans h.output,by rw [iH];exact h.size,fun k hk hn => ?_⟩
 rw [dh c k (fun e=>by subst e;rcases hc with ⟨b,hc⟩ | hc;exact hn b hc;omega)]
 exact h.block k hk hn
theorem nF {r₀:Ren} {w₀ w:World} (h:Fr r₀ w₀ w) (o:Obj):Fr r₀ w₀ (w.alloc o) :=
 ⟨h.os,h.tape,h.output,by have:=h.size;simp;omega,fun k hk hn=>by rw [Below.heap_alloc _ _ _ (by have:=h.size;omega)];exact h.block k hk hn⟩
theorem vD {r₀:Ren} {w₀ w w':World} (h:Fr r₀ w₀ w) (hb:Below w.heap.size w w'):Fr r₀ w₀ w' :=
 ⟨hb.os.trans h.os,hb.tape.trans h.tape,hb.output.trans h.output,Nat.le_trans h.size hb.size,fun k hk hn=>by rw [hb.block k (by have:=h.size;omega)];exact h.block k hk hn⟩
theorem Sim.frTrans (S:Sim gl r₀ w₀ a m A w r) {w':World} (h:Fr r w w'):Fr r₀ w₀ w' :=
 ⟨h.os.trans S.fr.os,h.tape.trans S.fr.tape,h.output.trans S.fr.output,Nat.le_trans S.fr.size h.size,fun k hk hn=>by
  rw [h.block k (by have:=S.fr.size;omega) (fun b e=>by
   rcases S.ext.2 b k e with h1 | h1
   ·exact hn b h1
   ·omega)]
  exact S.fr.block k hk hn⟩
theorem Sim.home (S:Sim gl r₀ w₀ a m A w r) {b c:Nat} (h:r b=some c):(∃ b:Nat,r₀ b=some c)∨w₀.heap.size≤c :=
 (S.ext.2 b c h).imp (fun h=>⟨b,h⟩) id
theorem uC {sym:Bool} {o:Oper} {ps:List Prop} {v:Value} {m':Mem} (h:spure P sym o a.eval m=some (ps,v,m')) (hp : ∀ p ∈ ps,p) (S:Sim gl r₀ w₀ a m A w r) {K:Act→World→Prop} {Q:Exit→Act→World→Prop}
  (hK : ∀ A' w' r',Sim gl r₀ w₀ (a.put o.dst v) m' A' w' r'→K A' w'):o.wp P A w K Q:=by
 unfold spure at h
 split at h
 ·simp at h
 ·rename_i op hns
  split at h
  ·rename_i hall
   have he:execOp A.eval o=execOp a.eval o:=execOp_congr o (fun cs b e=>hns cs b e) (fun x hx=>S.evalFlat (List.all_eq_true.1 hall x (by simpa using hx)))
   split at h
   ·rename_i qs v' hq
    simp only [qG,qH] at h
    obtain ⟨rfl,rfl,rfl⟩:=h
    obtain ⟨q1,q2⟩:=yk (P:=P) hq hp w
    exact bB (by rw [he];exact q1) (hK _ _ _ (S.put0 (cd r _ q2) _))
   ·split at h
    ·rename_i v' hq
     simp only [qG,qH] at h
     obtain ⟨rfl,rfl,rfl⟩:=h
     obtain ⟨q1,q2⟩:=Dp hq w
     exact bB (by rw [he];exact q1) (hK _ _ _ (S.put0 (cd r _ q2) _))
    ·split at h
     ·rename_i v' hpr
      split at h
      ·rename_i hf
       simp only [qG,qH] at h
       obtain ⟨rfl,rfl,rfl⟩:=h
       exact bB (by rw [he];exact eE _ _ hpr w) (hK _ _ _ (S.put0 (cd r _ hf) _))
      ·simp at h
     ·simp at h
  ·simp at h
end Go.Proofs.YtajehiidpecknaaGreatDoor
