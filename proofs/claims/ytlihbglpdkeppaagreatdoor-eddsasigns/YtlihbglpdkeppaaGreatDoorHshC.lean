/- All the variables on the road, and hashed as a contract of the engine, beside a message that is the world's own. -/
import Derived.Test.YtlihbglpdkeppaaGreatDoorHshA
import Derived.Test.YtlihbglpdkeppaaGreatDoorPoiJ
set_option linter.unusedSimpArgs false
set_option linter.unusedVariables false
namespace Go.Proofs.YtlihbglpdkeppaaGreatDoor.Edd
open Go Go.RowKit Shf
open Cat (Parts catC catM catY catN catH catOK cat_calls catY_succ)
variable {r₀ r:Ren} {w₀ w:World} {m:Mem}
def nA:Nat:=Nat.max np ng
def MA:Mem:=((((((List.replicate nA none).set 0 (some ⟨H512,91⟩)).set 3 (some ⟨K512,104⟩)).set 2 (some ⟨bl GY,22⟩)).set 5 (some ⟨bl DN',22⟩)).set 4 (some ⟨bl 1,22⟩)).set 1 (some ⟨bl GX,22⟩)
def glA:List Nat:=[0,3,2,5,4,1]
theorem MA_flat:flatM MA=true:=by kernel_rfl
theorem MA_in:insideG MA glA=true:=by kernel_rfl
theorem MA_cov:coversG MA glA=true:=by kernel_rfl
theorem M5_covA:coversG M5 glA=true:=by kernel_rfl
theorem M0_covA:coversG M0 glA=true:=by kernel_rfl
theorem M1_covA:coversG M1 glA=true:=by kernel_rfl
theorem M5_MA:gHas M5 MA=true:=by kernel_rfl
theorem MA_M5 (h:Glo MA w):Glo M5 w:=fun b B hB=>h b B (gHas_get M5_MA hB)
def msgH (v:Sv) (y:List Value) (r₀:Ren) (w₀:World):Prop:=r₀=glR MA∧Glo MA w₀∧WSrc v.val v.n y w₀
def MsgOK (v:Sv) (y:List Value):Prop := ∀ u ∈ y,IsU8 u
def pieceOf (v:Sv) (y:List Value) (m:Mem) (L:Nat) (u:Value):Option (List Prop × List Value) :=
 match u with
 | .slice (some ⟨b,o,none⟩) n c=>if b=L then none else
  match getB m b with
  | some B=>some ([o+n≤B.cells.length∧((B.cells.drop o).take n).all (isInt .u8)=true],(B.cells.drop o).take n)
  | none=>none
 | .tuple ⟨[.slice x n c]⟩=>some ([x=v.x∧n=v.n∧c=v.c],y)
 | _=>none
def piecesOf (v:Sv) (y:List Value) (m:Mem) (L:Nat):List Value→Option (List Prop × List Value)
 | []=>some ([],[])
 | u :: us=>match pieceOf v y m L u,piecesOf v y m L us with
  | some (a,b),some (c,d)=>some (a ++ c,b ++ d)
  | _,_=>none
def gHsh (v:Sv) (y:List Value) (args:List Value) (m:Mem):Option (List Prop × Value) :=
 match args with
 | [.slice (some ⟨L,0,none⟩) p c]=>if gHas MA m && (getB MA L).isNone then
   match getB m L with
   | some B=>if B.cells.length=p∧c=p∧p≤1000 then
     match piecesOf v y m L B.cells with
     | some (ts,bs)=>some (ts ++ [0<bs.length∧bs.length≤140737488355328],hashV bs)
     | none=>none
    else none
   | none=>none
  else none
 | _=>none
theorem pieceOf_more {v:Sv} {y:List Value} {L:Nat} {u:Value} {q:List Prop × List Value} {i:Nat} {B:Blk} (hi:m[i]? = some none) (h:pieceOf v y m L u=some q):pieceOf v y (m.set i (some B)) L u=some q:=by
 unfold pieceOf at h ⊢
 split at h
 ·rename_i b o n c
  split at h
  ·simp at h
  ·rename_i hb
   simp only [if_neg hb]
   cases hB:getB m b with
   | none=>rw [hB] at h;simp at h
   | some B'=>rw [getB_fill (hole_ne hi hB),hB];rw [hB] at h;exact h
 ·exact h
 ·simp at h
theorem piecesOf_more {v:Sv} {y:List Value} {L i:Nat} {B:Blk} (hi:m[i]? = some none) : ∀ (us:List Value) {q:List Prop × List Value},piecesOf v y m L us=some q→piecesOf v y (m.set i (some B)) L us=some q
 | [],q,h=>h
 | u :: us,q,h=>by
  simp only [piecesOf] at h ⊢
  cases h1:pieceOf v y m L u with
  | none=>rw [h1] at h;simp at h
  | some a =>
   cases h2:piecesOf v y m L us with
   | none=>rw [h1,h2] at h;simp at h
   | some c =>
    rw [pieceOf_more hi h1,piecesOf_more hi us h2]
    rw [h1,h2] at h;exact h
theorem gHsh_more {v:Sv} {y:List Value} : ∀ args (m:Mem) q i B,m[i]? = some none→gHsh v y args m=some q→gHsh v y args (m.set i (some B))=some q:=by
 intro args m q i B hi h
 unfold gHsh at h ⊢
 split at h
 ·rename_i L p c
  split at h
  ·rename_i hg
   simp only [Bool.and_eq_true] at hg
   simp only [gHas_more hi hg.1,hg.2,Bool.and_self,if_true]
   cases hB:getB m L with
   | none=>rw [hB] at h;simp at h
   | some B' =>
    rw [getB_fill (hole_ne hi hB),hB]
    rw [hB] at h
    simp only at h ⊢
    split at h
    ·rename_i hc
     simp only [if_pos hc]
     cases hp:piecesOf v y m L B'.cells with
     | none=>rw [hp] at h;simp at h
     | some x=>rw [piecesOf_more hi _ hp];rw [hp] at h;exact h
    ·simp at h
  ·simp at h
 ·simp at h
theorem u8_flat {l:List Value} (h : ∀ u ∈ l,IsU8 u):l.all flat1=true:=List.all_eq_true.2 fun u hu=>by
 obtain ⟨x,rfl⟩:=h u hu;rfl
theorem isInt_u8 {l:List Value} (h:l.all (isInt .u8)=true) : ∀ u ∈ l,IsU8 u:=fun u hu=>by
 have:=List.all_eq_true.1 h u hu
 cases u <;> simp [isInt] at this
 subst this;exact ⟨_,rfl⟩
theorem msg_now {v:Sv} {y:List Value} (h:msgH v y r₀ w₀) (hf:Fr r₀ w₀ w) (hG:Glo MA w):WSrc v.val v.n y w:=by
 obtain ⟨rfl,hG0,hs⟩:=h
 obtain ⟨hl,⟨c,hv,h0⟩ | ⟨c,o,cap,hv,hc,hj⟩⟩:=hs
 ·exact ⟨hl,.inl ⟨c,hv,h0⟩⟩
 ·refine ⟨hl,.inr ⟨c,o,cap,hv,Nat.lt_of_lt_of_le hc hf.size,fun j u hu => ?_⟩⟩
  have h1:=hj j u hu
  have hb:w.heap[c]? = w₀.heap[c]? := by
   cases hm:getB MA c with
   | some B=>rw [hG c B hm,hG0 c B hm]
   | none =>
    refine hf.block c hc fun b hb => ?_
    obtain ⟨e,B,hB⟩:=glR_some hb
    subst e
    rw [hm] at hB;cases hB
  simp only [World.cell?] at h1 ⊢
  rw [hb];exact h1
theorem parts_of {v:Sv} {y:List Value} (hy:MsgOK v y) {L cL:Nat} (hr:Rel r m w) (hL:r L=some cL) (hmsg:WSrc v.val v.n y w) (hna:Cat.notAt cL v.val) : ∀ (us us':List Value) (ts:List Prop) (bs:List Value),trL (tr1 r) us=some us'→piecesOf v y m L us=some (ts,bs)→(∀ p ∈ ts,p) →
  ∃ ps:Parts,us'=(ps.map fun q=>q.1.val)∧(ps.map Prod.snd).flatten=bs∧ps.length=us.length ∧ ∀ q ∈ ps,q.2.length=q.1.n∧(∀ u ∈ q.2,IsU8 u)∧WSrc q.1.val q.1.n q.2 w∧Cat.notAt cL q.1.val
 | [],us',ts,bs,h,hp,_=>by
  simp only [trL,Option.some.injEq] at h;subst h
  simp only [piecesOf,Option.some.injEq,Prod.mk.injEq] at hp
  exact ⟨[],rfl,hp.2,rfl,fun q hq=>by cases hq⟩
 | u :: us,us',ts,bs,h,hp,ht=>by
  obtain ⟨u',r',h1,h2,rfl⟩:=trL_cons h
  simp only [piecesOf] at hp
  cases p1:pieceOf v y m L u with
  | none=>rw [p1] at hp;simp at hp
  | some a =>
   cases p2:piecesOf v y m L us with
   | none=>rw [p1,p2] at hp;simp at hp
   | some c =>
    obtain ⟨ta,ba⟩:=a
    obtain ⟨tc,bc⟩:=c
    rw [p1,p2] at hp
    simp only [Option.some.injEq,Prod.mk.injEq] at hp
    obtain ⟨rfl,rfl⟩:=hp
    obtain ⟨ps,e1,e2,e3,e4⟩:=parts_of hy hr hL hmsg hna us r' tc bc h2 p2 (fun p hp=>ht p (List.mem_append_right _ hp))
    have key : ∃ q:Sv × List Value,u'=q.1.val∧q.2=ba∧q.2.length=q.1.n∧(∀ u ∈ q.2,IsU8 u)∧WSrc q.1.val q.1.n q.2 w∧Cat.notAt cL q.1.val:=by
     unfold pieceOf at p1
     split at p1
     ·rename_i b o n k
      split at p1
      ·simp at p1
      ·rename_i hbL
       cases hB:getB m b with
       | none=>rw [hB] at p1;simp at p1
       | some B =>
        rw [hB] at p1
        simp only [Option.some.injEq,Prod.mk.injEq] at p1
        obtain ⟨rfl,rfl⟩:=p1
        obtain ⟨t1,t2⟩:=ht _ (List.mem_append_left _ (List.mem_singleton.2 rfl))
        obtain ⟨cb,cs,q1,q2,q3⟩:=hr.cells b B hB
        have hu':u' = .slice (some ⟨cb,o,none⟩) n k:=by
         simp only [tr1,q1,Option.map_some,Option.some.injEq] at h1
         exact h1.symm
        subst hu'
        have hu8:=isInt_u8 t2
        have hlen:((B.cells.drop o).take n).length=n:=by rw [List.length_take,List.length_drop];omega
        refine ⟨(⟨some ⟨cb,o,none⟩,n,k⟩,(B.cells.drop o).take n),rfl,rfl,hlen,hu8,⟨hlen,.inr ⟨cb,o,k,rfl,hr.lt q1,fun j x hx => ?_⟩⟩,.inr fun e => ?_⟩
        ·have e:=trL_take n (trL_drop o q2)
         rw [trL_all (tr1_flat r) (u8_flat hu8)] at e
         simp only [Option.some.injEq] at e
         rw [e,List.getElem?_take] at hx
         split at hx
         ·rw [List.getElem?_drop] at hx
          simp [World.cell?,q3,hx]
         ·simp at hx
        ·simp only at e
         subst e
         exact hbL (hr.inj b L cb q1 hL)
     ·rename_i x n k
      simp only [Option.some.injEq,Prod.mk.injEq] at p1
      obtain ⟨rfl,rfl⟩:=p1
      obtain ⟨rfl,rfl,rfl⟩:=ht _ (List.mem_append_left _ (List.mem_singleton.2 rfl))
      have hu':u'=v.val:=by
       show u'=Value.slice v.x v.n v.c
       simp only [tr1] at h1
       split at h1
       ·simpa using h1.symm
       ·simp at h1
      exact ⟨(v,y),hu',rfl,hmsg.1,hy,hmsg,hna⟩
     ·simp at p1
    obtain ⟨q,k1,k2,k3,k4,k5,k6⟩:=key
    refine ⟨q :: ps,by rw [k1,e1];rfl,by rw [List.map_cons,List.flatten_cons,k2,e2],by simp [e3],fun q' hq' => ?_⟩
    rcases List.mem_cons.1 hq' with rfl | hq'
    ·exact ⟨k3,k4,k5,k6⟩
    ·exact e4 q' hq'
theorem glR_dom {b c:Nat} (h:glR MA b=some c):(getB MA b).isSome=true:=by
 obtain ⟨_,B,hB⟩:=glR_some h;rw [hB];rfl
theorem gHsh_ok {X:Cx} {v:Sv} {y:List Value} (hX:OkH X Tryz.prog (msgH v y)) (hgl:X.gl=glA) (hy:MsgOK v y):OkH (X.read 16 (gHsh v y)) Tryz.prog (msgH v y):=by
 refine OkH.read hX (fun r₀ w₀ hH args m ps v' hg hp r w args' hr hf he hglr ha => ?_) gHsh_more
 rw [hgl] at hglr
 unfold gHsh at hg
 split at hg
 ·rename_i L p c
  split at hg
  ·rename_i hgm
   simp only [Bool.and_eq_true] at hgm
   cases hB:getB m L with
   | none=>rw [hB] at hg;simp at hg
   | some B =>
    rw [hB] at hg
    simp only at hg
    split at hg
    ·rename_i hc
     obtain ⟨hc1,rfl,hc3⟩:=hc
     cases hpo:piecesOf v y m L B.cells with
     | none=>rw [hpo] at hg;simp at hg
     | some x =>
      obtain ⟨ts,bs⟩:=x
      rw [hpo] at hg
      simp only [Option.some.injEq,Prod.mk.injEq] at hg
      obtain ⟨rfl,rfl⟩:=hg
      have hG:Glo MA w:=hr.glo hgm.1 MA_flat fun g hg=>hglr g (coversG_get MA_cov hg)
      have hmsg:=msg_now hH hf hG
      obtain ⟨cL,cs,q1,q2,q3⟩:=hr.cells L B hB
      have hnew:w₀.heap.size≤cL:=by
       rcases he L cL q1 with h | h
       ·rw [hH.1] at h
        have:=glR_dom h
        rw [Option.isNone_iff_eq_none] at hgm
        rw [hgm.2] at this;cases this
       ·exact h
      have hna:Cat.notAt cL v.val:=by
       obtain ⟨_,⟨c,hv,h0⟩ | ⟨c,o,cap,hv,hcl,_⟩⟩:=hH.2.2
       ·rw [hv];trivial
       ·rw [hv]
        right
        show c≠cL
        omega
      obtain ⟨ps,e1,e2,e3,e4⟩:=parts_of hy hr q1 hmsg hna B.cells cs ts bs q2 hpo (fun p hp'=>hp p (List.mem_append_left _ hp'))
      have hsz:=hp _ (List.mem_append_right _ (List.mem_singleton.2 rfl))
      have hcat:catY ps ps.length=bs:=by unfold catY;rw [List.take_length];exact e2
      have hcn:catN ps ps.length=bs.length:=by unfold catN;rw [hcat]
      have hlen:ps.length=c:=by omega
      obtain ⟨a1,a2,a3⟩ : ∃ a1,args' = [a1]∧tr r (.slice (some ⟨L,0,none⟩) c c)=some a1:=by
       obtain ⟨a1,l1,t1,t2,rfl⟩:=trL_cons ha
       simp only [trL,Option.some.injEq] at t2;subst t2
       exact ⟨a1,rfl,t1⟩
      obtain ⟨c',hc',rfl⟩:=tr_slice a3
      rw [q1] at hc';cases hc'
      subst a2
      have h:=hashed_calls ps (fun q hq=>⟨u8_flat (e4 q hq).2.1,(e4 q hq).1⟩) (fun q hq=>(e4 q hq).2.1) (by omega) (by rw [hcn];exact hsz.1) (by rw [hcn];exact hsz.2) (c:=cL) (ty:=B.ty) (MA_M5 hG) (fun g hg e=>by
       obtain ⟨B5,hB5⟩:=Option.isSome_iff_exists.1 hg
       have h0:=MA_M5 hH.2.1 g B5 hB5
       have:=(Array.getElem?_eq_some_iff.1 h0).1
       omega) (by rw [q3,e1]) (fun q hq=>⟨(e4 q hq).2.2.1,(e4 q hq).2.2.2⟩)
      rw [hlen] at h
      rw [←hlen,hcat,hlen] at h
      have hfv:tr r (hashV bs)=some (hashV bs):=tr_flat r _ (Sc.flat_bv _)
      rcases h with ⟨v',w',k1,rfl,k3⟩ | ⟨k1,k2⟩
      ·exact .inl ⟨_,w',k1,hfv,k3⟩
      ·refine .inr ⟨k1,k2.mono ?_⟩
       rintro e w' ⟨v',rfl,rfl,k3⟩
       exact ⟨_,rfl,hfv,k3⟩
    ·simp at hg
  ·simp at hg
 ·simp at hg
end Go.Proofs.YtlihbglpdkeppaaGreatDoor.Edd
