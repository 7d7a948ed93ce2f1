/- The reference's Halves as a call; its Hashed. -/
import Derived.Test.YtlihbglpdkeppaaGreatDoorRhaA
import Derived.Test.YtlihbglpdkeppaaGreatDoorScrA
import Derived.Test.YtlihbglpdkeppaaGreatDoorEddV
import Derived.Test.YtlihbglpdkeppaaGreatDoorPoiTC
import Derived.Test.YtlihbglpdkeppaaGreatDoorEddK
set_option linter.unusedSimpArgs false
set_option linter.unusedVariables false
namespace Go.Proofs.YtlihbglpdkeppaaGreatDoor.Edd
open Go Go.RowKit Shf
open Cat (Parts catC catM catY catN catH catOK sl0)
theorem low_flat (h:S8):flat2 (.agg (lowQ (out64 h)).toArray)=true:=by kernel_rfl
theorem hv_calls (s:Nat) (w:World):CallOK Tryz.prog 14 #[bv s] w fun v' w' => ∃ c cap q,v' = .tuple #[.agg (lowQ (out64 (sha0F (bl s) 0 32))).toArray,.slice (some ⟨c,0,none⟩) 32 cap]∧w.heap.size≤c∧w'.heap[c]? = some (.cells q.toArray 5 (0,0))∧q.all flat1=true∧OwnRow ((out64 (sha0F (bl s) 0 32)).drop 32) cap q∧Below w.heap.size w w':=by
 refine call_enter Tryz.func14 (by kernel_rfl) (show _=some (bodyOf Tryz.f14) from (by kernel_rfl)) ?_
 have hb:=hv_body (H:=fun _ _=>True) sha0F s YS_ok
 exact callsT_of_SWn (H:=fun _ _=>True) (gl:=[]) (m:=[]) (args:=[bv s]) (R:=fun cap q=>OwnRow ((out64 (sha0F (bl s) 0 32)).drop 32) cap q) (low_flat _) Tryz.func14 (by kernel_rfl) hb (Rel.nil w) trivial (fun g hg=>by cases hg) (by rw [trL_mk (tr_flat _ _ (show flat (bv s)=true from by kernel_rfl)) rfl])
def YH (sha:List Value→Nat→Nat→S8):Cx:=(Cx.none.read 36 (gRsm sha)).pure 43 Sc.gRedS
theorem YH_ok:(YH sha0F).Ok Tryz.prog:=Sc.rRed_ok (gRsm_ok Cx.none_ok)
theorem YH_gl (sha:List Value→Nat→Nat→S8):(YH sha).gl = []:=rfl
def g0S (fn:Func) (p:Nat) (ps:Parts) (ty:BT):Act × Mem:=(sinit fn [sl0 p],catM ps ty)
def g1S (P:Program) (sha:List Value→Nat→Nat→S8) (fn:Func) (p:Nat) (ps:Parts) (ty:BT):Act × Mem:=runL P (YH sha) 20 [cL (bodyOf fn)] (g0S fn p ps ty)
theorem g_1 (sha:List Value→Nat→Nat→S8) (p:Nat) (ps:Parts) (ty:BT):sexecL Tryz.prog (YH sha) 20 [cL (bodyOf Tryz.f19)] [] (g0S Tryz.f19 p ps ty)=some ([],g1S Tryz.prog sha Tryz.f19 p ps ty):=by kernel_rfl
theorem g_code:bodyOf Tryz.f19=seqs [cL (bodyOf Tryz.f19)] (.seq (hC (bodyOf Tryz.f19)) .ret):=by kernel_rfl
def g2S (P:Program) (sha:List Value→Nat→Nat→S8) (fn:Func) (p:Nat) (ps:Parts) (ty:BT):Act × Mem:=ahead P (YH sha) (hC (bodyOf fn)) [0] (g1S P sha fn p ps ty)
theorem g_2 (sha:List Value→Nat→Nat→S8) (p:Nat) (ps:Parts) (ty:BT):sseq Tryz.prog (YH sha) (rOps (hC (bodyOf Tryz.f19))) (g1S Tryz.prog sha Tryz.f19 p ps ty).2.length [0] [] ((g1S Tryz.prog sha Tryz.f19 p ps ty).1,(g1S Tryz.prog sha Tryz.f19 p ps ty).2 ++ List.replicate ((rOps (hC (bodyOf Tryz.f19))).toList.filter makes).length none)=some ([],g2S Tryz.prog sha Tryz.f19 p ps ty):=by kernel_rfl
theorem g_2o (sha:List Value→Nat→Nat→S8) (p:Nat) (ps:Parts) (ty:BT):okX [] (g2S Tryz.prog sha Tryz.f19 p ps ty).1.eval (.tmp 3)=true:=by kernel_rfl
theorem g_2e (sha:List Value→Nat→Nat→S8) (p:Nat) (ps:Parts) (ty:BT):(g2S Tryz.prog sha Tryz.f19 p ps ty).1.eval (.tmp 3)=sl0 p:=by kernel_rfl
def gM (ps:Parts) (ty:BT):Mem:=[some ⟨catC ps,ty⟩,some ⟨z32,22⟩]
theorem g_2m (sha:List Value→Nat→Nat→S8) (p:Nat) (ps:Parts) (ty:BT):(g2S Tryz.prog sha Tryz.f19 p ps ty).2=gM ps ty:=by kernel_rfl
theorem gM_len (ps:Parts) (ty:BT):(gM ps ty).length=2:=rfl
theorem gM_get (ps:Parts) (ty:BT):getB (gM ps ty) 0=some ⟨catC ps,ty⟩:=rfl
def g3S (P:Program) (sha:List Value→Nat→Nat→S8) (fn:Func) (p:Nat) (ps:Parts) (ty:BT) (n cap:Nat) (q:List Value):Act × Mem:=seqS P (YH sha) (rOps (hC (bodyOf fn))) 2 [2,3,4] ((g2S P sha fn p ps ty).1.put (some 4) (.slice (some ⟨2,0,none⟩) n cap),gM ps ty ++ [some ⟨q,⟨5,(0,0)⟩⟩])
theorem g_3 (sha:List Value→Nat→Nat→S8) (p:Nat) (ps:Parts) (ty:BT) (n cap:Nat) (q:List Value):sseq Tryz.prog (YH sha) (rOps (hC (bodyOf Tryz.f19))) 2 [2,3,4] [] ((g2S Tryz.prog sha Tryz.f19 p ps ty).1.put (some 4) (.slice (some ⟨2,0,none⟩) n cap),gM ps ty ++ [some ⟨q,⟨5,(0,0)⟩⟩])=some ([pSm q 0 n,Sc.IsB64 (.agg (out64 (sha q 0 n)).toArray)],g3S Tryz.prog sha Tryz.f19 p ps ty n cap q):=by kernel_rfl
theorem g_3r (sha:List Value→Nat→Nat→S8) (p:Nat) (ps:Parts) (ty:BT) (n cap:Nat) (q:List Value):sres Tryz.prog Tryz.f19 (g3S Tryz.prog sha Tryz.f19 p ps ty n cap q)=some (Sc.RD (.agg (out64 (sha q 0 n)).toArray)):=by kernel_rfl
theorem g_3d (sha:List Value→Nat→Nat→S8) (p:Nat) (ps:Parts) (ty:BT) (n cap:Nat) (q:List Value):(g3S Tryz.prog sha Tryz.f19 p ps ty n cap q).1.defers = []:=by kernel_rfl
theorem g_3m (sha:List Value→Nat→Nat→S8) (p:Nat) (ps:Parts) (ty:BT) (n cap:Nat) (q:List Value):(g3S Tryz.prog sha Tryz.f19 p ps ty n cap q).2=catM ps ty ++ (g3S Tryz.prog sha Tryz.f19 p ps ty n cap q).2.drop 1:=by kernel_rfl
theorem sha_own {q y:List Value} {cap:Nat} (h:OwnRow y cap q):sha0F q 0 y.length=sumB y.length fun i=>intL y i:=by
 unfold sha0F
 refine sumB_congr fun i hi => ?_
 unfold intL
 rw [show 0+i=i by omega,own_get h hi]
theorem pSm_own {q y:List Value} {cap:Nat} (h:OwnRow y cap q) (hy : ∀ v ∈ y,IsByte v) (hn:y.length+400≤140737488355328):pSm q 0 y.length:=by
 have e:(q.drop 0).take y.length=y:=by
  apply List.ext_getElem?
  intro i
  rw [List.drop_zero,List.getElem?_take]
  split
  ·rename_i hi;exact own_get h hi
  ·rename_i hi;rw [List.getElem?_eq_none (by omega)]
 refine ⟨?_,by rw [e];exact hy,hn⟩
 have:=congrArg List.length e
 simp at this
 omega
theorem catByte {ps:Parts} (hu : ∀ q ∈ ps,∀ v ∈ q.2,IsByte v) (t:Nat) : ∀ v ∈ catY ps t,IsByte v:=by
 intro v hv
 unfold catY at hv
 obtain ⟨l,hl,hv⟩:=List.mem_flatten.1 hv
 obtain ⟨q,hq,rfl⟩:=List.mem_map.1 hl
 exact hu q (List.mem_of_mem_take hq) v hv
theorem rhashed_body (ps:Parts) (hps:catOK ps) (hu : ∀ q ∈ ps,∀ v ∈ q.2,IsByte v) (hp1:1≤ps.length) (hp2:ps.length≤1000) (h0:0<catN ps 1) (hs:catN ps ps.length+400≤140737488355328) (c:Nat) (ty:BT) :
  SWn (fun r₀ w₀=>r₀ 0=some c∧catH ps r₀ w₀) Tryz.prog [] (bodyOf Tryz.f19) (g0S Tryz.f19 ps.length ps ty) fun e s=>(e = .normal∨e = .ret)∧s.1.defers = [] ∧ ∃ v,sres Tryz.prog Tryz.f19 s=some v∧(flat v=true∨v=undef)∧(∀ i B,getB (catM ps ty) i=some B→getB s.2 i=some B)∧v=hashV (catY ps ps.length):=by
 rw [g_code]
 refine SWn.preG YH_ok mixed (YH_gl _) rfl (g_1 sha0F ps.length ps ty) (by simp) (SWn.seq ?_)
 rw [show hC (bodyOf Tryz.f19) = .region (rId (hC (bodyOf Tryz.f19))) (rOps (hC (bodyOf Tryz.f19))) false from (by kernel_rfl)]
 refine SWn.region ?_
 rw [show List.range (rOps (hC (bodyOf Tryz.f19))).size = [0] ++ (1 :: ([2,3,4] ++ [])) from (by kernel_rfl)]
 refine SWL.steps YH_ok (YH_gl _) (by simp) ?_ [0] [] _ (g_2 sha0F ps.length ps ty)
 refine Cat.SWL.callR (c:=hC (bodyOf Tryz.f19)) (d:=4) (f:=44) (args := #[.tmp 3]) (ts := #[60]) (n:=catN ps ps.length) (e:=5) (R:=fun cap q=>OwnRow (catY ps ps.length) cap q) (by kernel_rfl) ?_ ?_
 ·intro r₀ w₀ A w r hH S
  have e1:=S.eval (g_2o sha0F ps.length ps ty)
  rw [g_2e] at e1
  obtain ⟨c',hc',e2⟩:=tr_slice e1
  have hc:r 0=some c:=S.ext.1 _ _ hH.1
  rw [hc] at hc'
  cases hc'
  have hm:=g_2m sha0F ps.length ps ty
  obtain ⟨c1,cs,p1,p2,p3⟩:=S.rel.cells 0 ⟨catC ps,ty⟩ (by rw [hm];exact gM_get ps ty)
  rw [hc] at p1;cases p1
  rw [Cat.catC_tr] at p2
  cases p2
  rw [show (#[Operand.tmp 3]:Array Operand).map A.eval = #[A.eval (.tmp 3)] by simp,e2]
  refine Cat.join_calls ps hps hp1 hp2 h0 (by omega) p3 fun q hq => ?_
  obtain ⟨q1,q2⟩:=hH.2.2 q hq
  refine ⟨q1.fr q2 S.fr,?_⟩
  unfold apart Sv.val at q2
  unfold Cat.notAt Sv.val
  cases hx:q.1.x with
  | none=>trivial
  | some a =>
   rw [hx] at q2
   exact q2.imp id fun h e=>h 0 (by rw [hH.1,e])
 ·intro cap q hf hrow
  have hm:=g_2m sha0F ps.length ps ty
  rw [hm,gM_len]
  have hy:(catY ps ps.length).length=catN ps ps.length:=rfl
  refine SWL.steps YH_ok (YH_gl _) (fun p hp => ?_) (SWL.nil ?_) [2,3,4] [] _ (g_3 sha0F ps.length ps ty (catN ps ps.length) cap q)
  ·simp only [List.mem_cons,List.not_mem_nil,or_false] at hp
   rcases hp with rfl | rfl
   ·rw [←hy];exact pSm_own hrow (catByte hu _) (by rw [hy];omega)
   ·exact isB64_of (out64_len _) (out64_byte _)
  ·refine SW.n (SW.ret ⟨.inr rfl,g_3d sha0F ps.length ps ty _ cap q,_,g_3r sha0F ps.length ps ty _ cap q,.inl ?_,fun i B hB => ?_,?_⟩)
   ·exact Sc.flat_bv _
   ·rw [g_3m]
    have hl:=getB_lt hB
    unfold getB at hB ⊢
    rw [List.getElem?_append_left hl];exact hB
   ·rw [←hy,sha_own hrow];rfl
theorem rhashed_calls (ps:Parts) (hps:catOK ps) (hu : ∀ q ∈ ps,∀ v ∈ q.2,IsByte v) (hp1:1≤ps.length) (hp2:ps.length≤1000) (h0:0<catN ps 1) (hs:catN ps ps.length+400≤140737488355328) {w:World} {c:Nat} {ty:BT} (hw:w.heap[c]? = some (.cells (ps.map fun q=>q.1.val).toArray ty.id ty.fz)) (hsrc : ∀ q ∈ ps,WSrc q.1.val q.1.n q.2 w∧Cat.notAt c q.1.val) :
  CallOK Tryz.prog 19 #[.slice (some ⟨c,0,none⟩) ps.length ps.length] w fun v' w'=>v'=hashV (catY ps ps.length)∧Below w.heap.size w w':=by
 refine call_enter Tryz.func19 (by kernel_rfl) (show _=some (bodyOf Tryz.f19) from (by kernel_rfl)) ?_
 exact calls_of_SWn (gl:=[]) (m:=catM ps ty) (args:=[sl0 ps.length]) (args':=[.slice (some ⟨c,0,none⟩) ps.length ps.length]) (R:=fun v=>v=hashV (catY ps ps.length)) Tryz.func19 (by kernel_rfl) (rhashed_body ps hps hu hp1 hp2 h0 hs c ty) (Cat.cat_rel hw) ⟨by simp [oneR0],Cat.cat_low c,fun q hq=>⟨(hsrc q hq).1,Cat.notAt_apart (hsrc q hq).2⟩⟩ (fun g hg=>by cases hg) rfl
end Go.Proofs.YtlihbglpdkeppaaGreatDoor.Edd
namespace Go.Proofs.YtlihbglpdkeppaaGreatDoor.Edd
open Go Go.RowKit Shf
open Cat (Parts catC catM catY catN catH catOK)
variable {r₀ r:Ren} {w₀ w:World} {m:Mem}
def head1:List Value→Option Nat
 | .slice _ n _ :: _=>some n
 | _=>none
def gHshR (F:Fs) (v:Sv) (y:List Value) (args:List Value) (m:Mem):Option (List Prop × Value) :=
 match args with
 | [.slice (some ⟨L,0,none⟩) p c]=>if gHas MA m && (getB MA L).isNone then
   match getB m L with
   | some B=>if B.cells.length=p∧c=p∧p≤1000 then
     match piecesOf v y m L B.cells,head1 B.cells with
     | some (ts,bs),some n=>some (ts ++ [0<n∧bs.length+400≤140737488355328 ∧ ∀ u ∈ bs,IsByte u],bv (F.hsh bs))
     | _,_=>none
    else none
   | none=>none
  else none
 | _=>none
theorem gHshR_more {F:Fs} {v:Sv} {y:List Value} : ∀ args (m:Mem) q i B,m[i]? = some none→gHshR F v y args m=some q→gHshR F v y args (m.set i (some B))=some q:=by
 intro args m q i B hi h
 unfold gHshR at h ⊢
 split at h
 ·rename_i L p c
  split at h
  ·rename_i hg
   simp only [Bool.and_eq_true] at hg
   simp only [gHas_more hi hg.1,hg.2,Bool.and_self,if_true]
   cases hB:getB m L with
   | none=>rw [hB] at h;simp at h
   | some B' =>
    rw [getB_fill (hole_ne hi hB),hB]
    rw [hB] at h
    simp only at h ⊢
    split at h
    ·rename_i hc
     simp only [if_pos hc]
     cases hp:piecesOf v y m L B'.cells with
     | none=>rw [hp] at h;simp at h
     | some x=>rw [piecesOf_more hi _ hp];rw [hp] at h;exact h
    ·simp at h
  ·simp at h
 ·simp at h
theorem head1_tr {us us':List Value} {n:Nat} {ps:Parts} (h:head1 us=some n) (ht:trL (tr1 r) us=some us') (e:us'=(ps.map fun q=>q.1.val)) : ∃ q ps',ps=q :: ps'∧q.1.n=n:=by
 cases us with
 | nil=>simp [head1] at h
 | cons u us =>
  obtain ⟨u',l,h1,h2,rfl⟩:=trL_cons ht
  cases ps with
  | nil=>simp at e
  | cons q ps =>
   refine ⟨q,ps,rfl,?_⟩
   simp only [List.map_cons,List.cons.injEq] at e
   obtain ⟨e1,_⟩:=e
   unfold head1 at h
   split at h
   ·rename_i x n' k _ hu
    simp only [List.cons.injEq] at hu
    obtain ⟨rfl,rfl⟩:=hu
    simp only [Option.some.injEq] at h
    subst h
    have : ∃ x',u' = .slice x' n' k:=by
     cases x with
     | none=>simp [tr1] at h1;exact ⟨none,h1.2.symm⟩
     | some a =>
      simp only [tr1] at h1
      cases hr:r a.block with
      | none=>simp [hr] at h1
      | some c=>simp [hr] at h1;exact ⟨_,h1.symm⟩
    obtain ⟨x',hx'⟩:=this
    rw [hx'] at e1
    unfold Sv.val at e1
    simp only [Value.slice.injEq] at e1
    exact e1.2.1.symm
   ·simp at h
theorem gHshR_ok {X:Cx} {F:Fs} (hF:F.hsh=hN) {v:Sv} {y:List Value} (hX:OkH X Tryz.prog (msgH v y)) (hgl:X.gl=glA) (hy:MsgOK v y):OkH (X.read 19 (gHshR F v y)) Tryz.prog (msgH v y):=by
 refine OkH.read hX (fun r₀ w₀ hH args m ps v' hg hp r w args' hr hf he hglr ha => ?_) gHshR_more
 rw [hgl] at hglr
 unfold gHshR at hg
 split at hg
 ·rename_i L p c
  split at hg
  ·rename_i hgm
   simp only [Bool.and_eq_true] at hgm
   cases hB:getB m L with
   | none=>rw [hB] at hg;simp at hg
   | some B =>
    rw [hB] at hg
    simp only at hg
    split at hg
    ·rename_i hc
     obtain ⟨hc1,rfl,hc3⟩:=hc
     cases hpo:piecesOf v y m L B.cells with
     | none=>rw [hpo] at hg;simp at hg
     | some x =>
      cases hh:head1 B.cells with
      | none=>rw [hpo,hh] at hg;simp at hg
      | some n =>
      obtain ⟨ts,bs⟩:=x
      rw [hpo,hh] at hg
      simp only [Option.some.injEq,Prod.mk.injEq] at hg
      obtain ⟨rfl,rfl⟩:=hg
      have hG:Glo MA w:=hr.glo hgm.1 MA_flat fun g hg=>hglr g (coversG_get MA_cov hg)
      have hmsg:=msg_now hH hf hG
      obtain ⟨cL,cs,q1,q2,q3⟩:=hr.cells L B hB
      have hnew:w₀.heap.size≤cL:=by
       rcases he L cL q1 with h | h
       ·rw [hH.1] at h
        have:=glR_dom h
        rw [Option.isNone_iff_eq_none] at hgm
        rw [hgm.2] at this;cases this
       ·exact h
      have hna:Cat.notAt cL v.val:=by
       obtain ⟨_,⟨c,hv,h0⟩ | ⟨c,o,cap,hv,hcl,_⟩⟩:=hH.2.2
       ·rw [hv];trivial
       ·rw [hv]
        right
        show c≠cL
        omega
      obtain ⟨ps,e1,e2,e3,e4⟩:=parts_of hy hr q1 hmsg hna B.cells cs ts bs q2 hpo (fun p hp'=>hp p (List.mem_append_left _ hp'))
      obtain ⟨hn0,hsz,hby⟩:=hp _ (List.mem_append_right _ (List.mem_singleton.2 rfl))
      have hcat:catY ps ps.length=bs:=by unfold catY;rw [List.take_length];exact e2
      have hcn:catN ps ps.length=bs.length:=by unfold catN;rw [hcat]
      have hlen:ps.length=c:=by omega
      obtain ⟨a1,a2,a3⟩ : ∃ a1,args' = [a1]∧tr r (.slice (some ⟨L,0,none⟩) c c)=some a1:=by
       obtain ⟨a1,l1,t1,t2,rfl⟩:=trL_cons ha
       simp only [trL,Option.some.injEq] at t2;subst t2
       exact ⟨a1,rfl,t1⟩
      obtain ⟨c',hc',rfl⟩:=tr_slice a3
      rw [q1] at hc';cases hc'
      subst a2
      have hpb : ∀ q ∈ ps,∀ u ∈ q.2,IsByte u:=fun q hq u hu=>hby u (by rw [←e2];exact List.mem_flatten.2 ⟨q.2,List.mem_map.2 ⟨q,hq,rfl⟩,hu⟩)
      obtain ⟨q0,ps0,ep,en⟩:=head1_tr hh q2 e1
      have h1:1≤ps.length:=by rw [ep];simp
      have h0:0<catN ps 1:=by
       have hq0:=(e4 q0 (by rw [ep];exact List.mem_cons_self)).1
       unfold catN catY
       rw [ep]
       simp
       omega
      have h:=rhashed_calls ps (fun q hq=>⟨u8_flat (e4 q hq).2.1,(e4 q hq).1⟩) hpb h1 (by omega) h0 (by rw [hcn];exact hsz) (w:=w) (c:=cL) (ty:=B.ty) (by rw [q3,e1]) (fun q hq=>⟨(e4 q hq).2.2.1,(e4 q hq).2.2.2⟩)
      rw [hlen] at h
      rw [←hlen,hcat,hlen] at h
      have hfe:bv (F.hsh bs)=hashV bs:=by rw [hF];rfl
      have hfv:tr r (bv (F.hsh bs))=some (hashV bs):=by rw [hfe];exact tr_flat r _ (Sc.flat_bv _)
      rcases h with ⟨v',w',k1,rfl,k3⟩ | ⟨k1,k2⟩
      ·exact .inl ⟨_,w',k1,hfv,k3⟩
      ·refine .inr ⟨k1,k2.mono ?_⟩
       rintro e w' ⟨v',rfl,rfl,k3⟩
       exact ⟨_,rfl,hfv,k3⟩
    ·simp at hg
  ·simp at hg
 ·simp at hg
end Go.Proofs.YtlihbglpdkeppaaGreatDoor.Edd
namespace Go.Proofs.YtlihbglpdkeppaaGreatDoor.Edd
open Go Go.RowKit Shf
set_option maxRecDepth 100000
theorem SWL.extract2 {H:Ren→World→Prop} {gl:List Nat} {P:Program} {Q:Exit→Act × Mem→Prop} {c:Code} {s:Act × Mem} {l:List Nat} {i d k:Nat} {x:Operand} {a b u:Value} (ho:((rOps c)[i]?).map (fun o=>(o.guard,o.op,o.dst))=some (none,.extract x k,some d)) (hx:okX gl s.1.eval x=true) (he:s.1.eval x = .tuple #[a,b]) (hk:(k=0∧u=a)∨(k=1∧u=b)) (hu : ∀ r u',tr2 r u=some u'→tr r u=some u')
  (h:SWL H P gl (rOps c) l (s.1.put (some d) u,s.2) Q):SWL H P gl (rOps c) (i :: l) s Q:=by
 cases hoi:(rOps c)[i]? with
 | none=>rw [hoi] at ho;simp at ho
 | some o =>
  rw [hoi] at ho
  simp only [Option.map_some,Option.some.injEq,Prod.mk.injEq] at ho
  obtain ⟨o1,o2,o3⟩:=ho
  refine SWL.op hoi o1 fun r₀ w₀ A w r hH S => ?_
  have h1:=S.eval hx
  rw [he] at h1
  have h2:(trL (tr2 r) [a,b]).map (fun l=>Value.tuple l.toArray)=some (A.eval x):=h1
  obtain ⟨l',e1,e2⟩:=Option.map_eq_some_iff.1 h2
  obtain ⟨a',l1,t1,t2,rfl⟩:=trL_cons e1
  obtain ⟨b',l2,t3,t4,rfl⟩:=trL_cons t2
  simp only [trL,Option.some.injEq] at t4;subst t4
  rcases hk with ⟨rfl,rfl⟩ | ⟨rfl,rfl⟩
  ·have S':=S.put0 (hu r a' t1) o.dst
   refine ⟨a',w,(s.1.put o.dst u,s.2),r,?_,S',by rw [o3];exact h⟩
   simp [execOp,o2,←e2,Instr.extract]
  ·have S':=S.put0 (hu r b' t3) o.dst
   refine ⟨b',w,(s.1.put o.dst u,s.2),r,?_,S',by rw [o3];exact h⟩
   simp [execOp,o2,←e2,Instr.extract]
theorem R0_hsh:R0.hsh=hN:=rfl
theorem and248 : ∀ x:Fin 256,bits .and .u8 (x.val:Int) 248=bits .andNot .u8 (x.val:Int) 7:=by decide +kernel
theorem and127 : ∀ x:Fin 256,bits .and .u8 (x.val:Int) 127=bits .andNot .u8 (x.val:Int) 128:=by decide +kernel
theorem fin_of {x:Int} (h0:0≤x) (h1:x<256) : ∃ k:Fin 256,x=(k.val:Int):=⟨⟨x.toNat,by omega⟩,by simp;omega⟩
theorem out_at (h:S8) {i:Nat} (hi:i<64):0≤intL (out64 h) i∧intL (out64 h) i<256:=by
 have hl:i<(out64 h).length:=by rw [out64_len];omega
 obtain ⟨x,hx,h0,h1⟩:=out64_byte h ((out64 h)[i]'hl) (List.getElem_mem hl)
 have e:(out64 h)[i]? = some (.int .u8 x):=by rw [List.getElem?_eq_getElem hl,hx]
 unfold intL;rw [e];exact ⟨h0,h1⟩
theorem low_eq (h:S8):lowQ (out64 h)=lowL (out64 h):=by
 obtain ⟨k,hk⟩:=fin_of (out_at h (i:=0) (by omega)).1 (out_at h (by omega)).2
 obtain ⟨j,hj⟩:=fin_of (out_at h (i:=31) (by omega)).1 (out_at h (by omega)).2
 unfold lowQ lowL
 rw [hk,hj,and248,and127]
theorem hvn_calls (s:Nat) (w:World):CallOK Tryz.prog 14 #[bv s] w fun v' w' => ∃ c cap q,v' = .tuple #[bv (hlvN s).1,.slice (some ⟨c,0,none⟩) 32 cap]∧w.heap.size≤c∧w'.heap[c]? = some (.cells q.toArray 5 (0,0))∧q.all flat1=true∧OwnRow (bl (hlvN s).2) cap q∧Below w.heap.size w w':=by
 have h:=hv_calls s w
 have h1:lowV s=bv (hlvN s).1:=lowV_B s
 have h2:preV s=bv (hlvN s).2:=preV_B s
 have e1:Value.agg (lowQ (out64 (sha0F (bl s) 0 32))).toArray=bv (hlvN s).1:=by rw [low_eq];exact h1
 have e2:(out64 (sha0F (bl s) 0 32)).drop 32=bl (hlvN s).2:=by
  have:Value.agg ((out64 (sha0F (bl s) 0 32)).drop 32).toArray=Value.agg (bl (hlvN s).2).toArray:=h2
  simpa using this
 rw [e1,e2] at h
 exact h
def RG (F:Fs) (v:Sv) (y:List Value):Cx:=(((Cx.none.glo glA).pure 15 (gBasF F)).pure 20 (gMulF F)).read 19 (gHshR F v y)
theorem RG_gl (F:Fs) (v:Sv) (y:List Value):(RG F v y).gl=glA:=rfl
theorem RG_ok {v:Sv} {y:List Value} (hy:MsgOK v y):OkH (RG R0 v y) Tryz.prog (msgH v y):=by
 have h:=R0_real
 have e1:gBasF R0=gBas:=by funext l;unfold gBasF gBas;rw [h.bas];rcases l with _ | ⟨a,_ | ⟨b,_ | ⟨c,_ | _⟩⟩⟩ <;> rfl
 have e6:gMulF R0=Sc.gMulS:=by funext l;unfold gMulF Sc.gMulS Sc.MU;rw [h.mu];rcases l with _ | ⟨a,_ | ⟨b,_ | ⟨c,_ | _⟩⟩⟩ <;> rfl
 unfold RG
 rw [e1,e6]
 exact gHshR_ok R0_hsh (Sc.rMul_ok (rgBas_ok (Cx.glo_ok Cx.none_ok (by intro g hg;cases hg)))).h rfl hy
def rt0 (fn:Func) (v:Sv) (s:Nat):Act × Mem:=(sinit fn [bv s,raw v.val],MA)
def rt1 (P:Program) (F:Fs) (fn:Func) (v:Sv) (y:List Value) (s:Nat):Act × Mem:=runL P (RG F v y) 60 [cL (bodyOf fn)] (rt0 fn v s)
theorem rt_1 (F:Fs) (v:Sv) (y:List Value) (s:Nat):sexecL Tryz.prog (RG F v y) 60 [cL (bodyOf Tryz.f9)] [] (rt0 Tryz.f9 v s)=some ([],rt1 Tryz.prog F Tryz.f9 v y s):=by kernel_rfl
def rtR (c:Code):Code:=cR (cR c)
theorem rt_code:bodyOf Tryz.f9=seqs [cL (bodyOf Tryz.f9)] (.seq (hC (bodyOf Tryz.f9)) (rtR (bodyOf Tryz.f9))):=by kernel_rfl
def rt2 (P:Program) (F:Fs) (fn:Func) (v:Sv) (y:List Value) (s:Nat):Act × Mem:=ahead P (RG F v y) (hC (bodyOf fn)) [0] (rt1 P F fn v y s)
theorem rt_2 (F:Fs) (v:Sv) (y:List Value) (s:Nat):sseq Tryz.prog (RG F v y) (rOps (hC (bodyOf Tryz.f9))) (rt1 Tryz.prog F Tryz.f9 v y s).2.length [0] [] ((rt1 Tryz.prog F Tryz.f9 v y s).1,(rt1 Tryz.prog F Tryz.f9 v y s).2 ++ List.replicate ((rOps (hC (bodyOf Tryz.f9))).toList.filter makes).length none)=some ([],rt2 Tryz.prog F Tryz.f9 v y s):=by kernel_rfl
theorem rt_2o (F:Fs) (v:Sv) (y:List Value) (s:Nat):okX glA (rt2 Tryz.prog F Tryz.f9 v y s).1.eval (.tmp 14)=true:=by kernel_rfl
theorem rt_2e (F:Fs) (v:Sv) (y:List Value) (s:Nat):(rt2 Tryz.prog F Tryz.f9 v y s).1.eval (.tmp 14)=bv s:=by kernel_rfl
theorem rt_2l (F:Fs) (v:Sv) (y:List Value) (s:Nat):(rt2 Tryz.prog F Tryz.f9 v y s).2.length=nA+3:=by kernel_rfl
def rtA (P:Program) (F:Fs) (fn:Func) (v:Sv) (y:List Value) (s a cap:Nat) (q:List Value):Act × Mem:=((rt2 P F fn v y s).1.put (some 15) (.tuple #[bv a,.slice (some ⟨nA+3,0,none⟩) 32 cap]),(rt2 P F fn v y s).2 ++ [some ⟨q,⟨5,(0,0)⟩⟩])
def rtB (P:Program) (F:Fs) (fn:Func) (v:Sv) (y:List Value) (s a cap:Nat) (q:List Value):Act × Mem:=seqS P (RG F v y) (rOps (hC (bodyOf fn))) (nA+2) [2] (rtA P F fn v y s a cap q)
theorem rt_B (F:Fs) (v:Sv) (y:List Value) (s a cap:Nat) (q:List Value):sseq Tryz.prog (RG F v y) (rOps (hC (bodyOf Tryz.f9))) (nA+2) [2] [] (rtA Tryz.prog F Tryz.f9 v y s a cap q)=some ([],rtB Tryz.prog F Tryz.f9 v y s a cap q):=by kernel_rfl
theorem rt_Bo (F:Fs) (v:Sv) (y:List Value) (s a cap:Nat) (q:List Value):okX glA (rtB Tryz.prog F Tryz.f9 v y s a cap q).1.eval (.tmp 13)=true:=by kernel_rfl
theorem rt_Be (F:Fs) (v:Sv) (y:List Value) (s a cap:Nat) (q:List Value):(rtB Tryz.prog F Tryz.f9 v y s a cap q).1.eval (.tmp 13) = .tuple #[bv a,.slice (some ⟨nA+3,0,none⟩) 32 cap]:=by kernel_rfl
def rtD (P:Program) (F:Fs) (fn:Func) (v:Sv) (y:List Value) (s a cap:Nat) (q:List Value):Act × Mem:=((rtB P F fn v y s a cap q).1.put (some 16) (bv a),(rtB P F fn v y s a cap q).2)
theorem rt_Do (F:Fs) (v:Sv) (y:List Value) (s a cap:Nat) (q:List Value):okX glA (rtD Tryz.prog F Tryz.f9 v y s a cap q).1.eval (.tmp 13)=true:=by kernel_rfl
theorem rt_De (F:Fs) (v:Sv) (y:List Value) (s a cap:Nat) (q:List Value):(rtD Tryz.prog F Tryz.f9 v y s a cap q).1.eval (.tmp 13) = .tuple #[bv a,.slice (some ⟨nA+3,0,none⟩) 32 cap]:=by kernel_rfl
def rtE (P:Program) (F:Fs) (fn:Func) (v:Sv) (y:List Value) (s a cap:Nat) (q:List Value):Act × Mem:=((rtD P F fn v y s a cap q).1.put (some 17) (.slice (some ⟨nA+3,0,none⟩) 32 cap),(rtD P F fn v y s a cap q).2)
def rt3 (P:Program) (F:Fs) (fn:Func) (v:Sv) (y:List Value) (s a cap:Nat) (q:List Value):Act × Mem:=seqS P (RG F v y) (rOps (hC (bodyOf fn))) (nA+2) [5,6,7] (rtE P F fn v y s a cap q)
theorem rt_3 (F:Fs) (v:Sv) (y:List Value) (s a cap:Nat) (q:List Value):sseq Tryz.prog (RG F v y) (rOps (hC (bodyOf Tryz.f9))) (nA+2) [5,6,7] [] (rtE Tryz.prog F Tryz.f9 v y s a cap q)=some ([],rt3 Tryz.prog F Tryz.f9 v y s a cap q):=by kernel_rfl
def qY1 (q y:List Value):List Value:=(q.drop 0).take 32 ++ (y ++ [])
def qC (F:Fs) (q y:List Value):Nat:=F.bas (bnum (bv (F.hsh (qY1 q y))))
def qK (F:Fs) (a:Nat):Nat:=F.bas (bnum (bv a))
def qY2 (F:Fs) (a:Nat) (q y:List Value):List Value:=((bl (qC F q y)).drop 0).take 32 ++ (((bl (qK F a)).drop 0).take 32 ++ (y ++ []))
def qS (F:Fs) (a:Nat) (q y:List Value):Nat:=F.mu (Sc.bnum (bv (F.hsh (qY2 F a q y)))) (Sc.bnum (bv a)) (Sc.bnum (bv (F.hsh (qY1 q y))))
def pY (l:List Value):Prop:=0<32∧l.length+400≤140737488355328 ∧ ∀ u ∈ l,IsByte u
def rtT (F:Fs) (v:Sv) (y:List Value) (a:Nat) (q:List Value):List Prop :=
 [IsB (bv a),0+32≤q.length∧((q.drop 0).take 32).all (isInt .u8)=true,pM v,pY (qY1 q y),IsB (bv (F.hsh (qY1 q y))),p32 (qC F q y),p32 (qK F a),pM v,pY (qY2 F a q y),Sc.IsB (bv (F.hsh (qY2 F a q y)))∧Sc.IsB (bv a)∧Sc.IsB (bv (F.hsh (qY1 q y)))]
def rt4 (P:Program) (F:Fs) (fn:Func) (v:Sv) (y:List Value) (s a cap:Nat) (q:List Value):Act × Mem:=runS P (RG F v y) 80 (rtR (bodyOf fn)) (rt3 P F fn v y s a cap q)
theorem rt_4 (F:Fs) (v:Sv) (y:List Value) (s a cap:Nat) (q:List Value):sexec Tryz.prog (RG F v y) 80 (rtR (bodyOf Tryz.f9)) [] (rt3 Tryz.prog F Tryz.f9 v y s a cap q)=some (rtT F v y a q,.ret,rt4 Tryz.prog F Tryz.f9 v y s a cap q):=by kernel_rfl
theorem rt_4r (F:Fs) (v:Sv) (y:List Value) (s a cap:Nat) (q:List Value):sres Tryz.prog Tryz.f9 (rt4 Tryz.prog F Tryz.f9 v y s a cap q)=some (sgv (qC F q y) (qS F a q y)):=by kernel_rfl
theorem rt_4d (F:Fs) (v:Sv) (y:List Value) (s a cap:Nat) (q:List Value):(rt4 Tryz.prog F Tryz.f9 v y s a cap q).1.defers = []:=by kernel_rfl
theorem rt_4m (F:Fs) (v:Sv) (y:List Value) (s a cap:Nat) (q:List Value):(rt4 Tryz.prog F Tryz.f9 v y s a cap q).2=MA ++ (rt4 Tryz.prog F Tryz.f9 v y s a cap q).2.drop nA:=by kernel_rfl
theorem bl_isByte (n:Nat) : ∀ u ∈ bl n,IsByte u:=fun u hu=>bl_byte n u hu
theorem rt_body {F:Fs} {v:Sv} {y:List Value} (hX:OkH (RG F v y) Tryz.prog (msgH v y)) (hh:F.hlv=hlvN) (hy:ByteR y) (hn:y.length+400≤140737488355000) (s:Nat) (hs:s<RN) :
  SWn (msgH v y) Tryz.prog glA (bodyOf Tryz.f9) (rt0 Tryz.f9 v s) (FQ Tryz.f9 (sgv (gC F s y) (gS F s y))):=by
 rw [rt_code]
 refine SWn.preH hX mixed (RG_gl F v y) rfl (rt_1 F v y s) (by simp) (SWn.seq ?_)
 rw [show hC (bodyOf Tryz.f9) = .region (rId (hC (bodyOf Tryz.f9))) (rOps (hC (bodyOf Tryz.f9))) false from (by kernel_rfl)]
 refine SWn.region ?_
 rw [show List.range (rOps (hC (bodyOf Tryz.f9))).size = [0] ++ (1 :: ([2] ++ (3 :: (4 :: ([5,6,7] ++ []))))) from (by kernel_rfl)]
 refine SWL.stepsH hX (RG_gl F v y) (by simp) ?_ [0] [] _ (rt_2 F v y s)
 refine SWL.callT (c:=hC (bodyOf Tryz.f9)) (d:=15) (f:=14) (args := #[.tmp 14]) (ts := #[22]) (k:=32) (e:=5) (u:=bv (hlvN s).1) (R:=fun cap q=>OwnRow (bl (hlvN s).2) cap q) (by kernel_rfl) (by kernel_rfl) ?_ ?_
 ·intro r₀ w₀ A w r hH S
  have e1:=S.eval (rt_2o F v y s)
  rw [rt_2e,tr_flat _ _ (flat_bv s)] at e1
  simp only [Option.some.injEq] at e1
  rw [show (#[Operand.tmp 14]:Array Operand).map A.eval = #[A.eval (.tmp 14)] by simp,←e1]
  exact hvn_calls s w
 ·intro cap q hf hrow
  rw [rt_2l]
  refine SWL.stepsH hX (RG_gl F v y) (by simp) ?_ [2] [] _ (rt_B F v y s (hlvN s).1 cap q)
  refine SWL.extract2 (c:=hC (bodyOf Tryz.f9)) (d:=16) (k:=0) (x := .tmp 13) (by kernel_rfl) (rt_Bo F v y s (hlvN s).1 cap q) (rt_Be F v y s (hlvN s).1 cap q) (.inl ⟨rfl,rfl⟩) (fun r u' h=>h) ?_
  refine SWL.extract2 (c:=hC (bodyOf Tryz.f9)) (d:=17) (k:=1) (x := .tmp 13) (by kernel_rfl) (rt_Do F v y s (hlvN s).1 cap q) (rt_De F v y s (hlvN s).1 cap q) (.inr ⟨rfl,rfl⟩) (fun r u' h=>h) ?_
  refine SWL.stepsH hX (RG_gl F v y) (by simp) (SWL.nil ?_) [5,6,7] [] _ (rt_3 F v y s (hlvN s).1 cap q)
  have hb:bnum (bv s)=s:=bnum_bv' hs
  have hA:gA F s=(hlvN s).1:=by unfold gA;rw [hh,hb]
  have hP:gP F s=(hlvN s).2:=by unfold gP;rw [hh,hb]
  have hq:(q.drop 0).take 32=bl (gP F s):=by
   rw [hP]
   have:=hrow.eq
   rw [bl_len] at this
   rw [List.drop_zero,this]
  have hY1:qY1 q y=gY1 F s y:=by unfold qY1 gY1;rw [hq,take32]
  have hC:qC F q y=gC F s y:=by unfold qC gC gR;rw [hY1]
  have hK:qK F (hlvN s).1=gK F s:=by unfold qK gK;rw [hA]
  have hY2:qY2 F (hlvN s).1 q y=gY2 F s y:=by unfold qY2 gY2;rw [hC,hK]
  have hS:qS F (hlvN s).1 q y=gS F s y:=by unfold qS gS gH gR;rw [hY2,hY1,hA]
  have hl:=hrow.len
  have hle:=hrow.le
  rw [bl_len] at hle
  refine SWn.runH hX mixed (RG_gl F v y) 80 (rt_4 F v y s (hlvN s).1 cap q) (fun p hp => ?_) ⟨.inr rfl,rt_4d F v y s _ cap q,_,rt_4r F v y s _ cap q,.inl (flat_sgv _ _),fun i B hB=>by rw [rt_4m];exact getMA hB,by rw [hC,hS]⟩
  simp only [rtT,List.mem_cons,List.not_mem_nil,or_false] at hp
  rcases hp with rfl | rfl | rfl | rfl | rfl | rfl | rfl | rfl | rfl | rfl
  ·exact isB_bv _
  ·exact ⟨by omega,by rw [hq];exact (p32_ok (gP F s)).2 ▸ by rw [take32]⟩
  ·exact pM_ok v
  ·rw [hY1]
   refine ⟨by omega,by unfold gY1;rw [take32];simp [bl_len];omega,fun u hu => ?_⟩
   unfold gY1 at hu
   rw [take32,List.append_nil] at hu
   rcases List.mem_append.1 hu with h | h
   ·exact bl_isByte _ u h
   ·exact hy u h
  ·exact isB_bv _
  ·exact p32_ok _
  ·exact p32_ok _
  ·exact pM_ok v
  ·rw [hY2]
   refine ⟨by omega,by unfold gY2;rw [take32,take32];simp [bl_len];omega,fun u hu => ?_⟩
   unfold gY2 at hu
   rw [take32,take32,List.append_nil] at hu
   rcases List.mem_append.1 hu with h | h
   ·exact bl_isByte _ u h
   ·rcases List.mem_append.1 h with h | h
    ·exact bl_isByte _ u h
    ·exact hy u h
  ·exact ⟨sc_isB.2 (isB_bv _),sc_isB.2 (isB_bv _),sc_isB.2 (isB_bv _)⟩
theorem rSgn_ok {X:Cx} {F:Fs} {v:Sv} {y:List Value} (hE:OkH (RG F v y) Tryz.prog (msgH v y)) (hh:F.hlv=hlvN) (hX:OkH X Tryz.prog (msgH v y)) (hgl:X.gl=glA) (hy:ByteR y) (hn:y.length+400≤140737488355000):OkH (X.read 9 (gMsg (gSgnF F v y))) Tryz.prog (msgH v y):=by
 refine gMsg_ok hX hgl Tryz.func9 (by kernel_rfl) (show _=some (bodyOf Tryz.f9) from (by kernel_rfl)) ?_
 intro args ps u hg hp
 unfold gSgnF at hg
 split at hg
 ·rename_i A x n c
  simp only [Option.some.injEq,Prod.mk.injEq] at hg
  obtain ⟨rfl,rfl⟩:=hg
  have hA:A=bv (bnum A):=hp _ List.mem_cons_self
  obtain ⟨rfl,rfl,rfl⟩:x=v.x∧n=v.n∧c=v.c:=hp _ (List.mem_cons_of_mem _ (List.mem_singleton.2 rfl))
  refine ⟨flat_sgv _ _,?_⟩
  have h:=rt_body hE hh hy hn (bnum A) (bnum_lt hA)
  unfold rt0 at h
  rw [←hA] at h
  exact h
 ·simp at hg
end Go.Proofs.YtlihbglpdkeppaaGreatDoor.Edd
namespace Go.Proofs.YtlihbglpdkeppaaGreatDoor.Edd
open Go Go.RowKit Shf
set_option maxRecDepth 100000
def RP (F:Fs):Cx:=Cx.none.pure 15 (gBasF F)
theorem RP_gl (F:Fs):(RP F).gl = []:=rfl
theorem RP_ok:(RP R0).Ok Tryz.prog:=by
 have h:=R0_real
 have e1:gBasF R0=gBas:=by funext l;unfold gBasF gBas;rw [h.bas];rcases l with _ | ⟨a,_ | ⟨b,_ | ⟨c,_ | _⟩⟩⟩ <;> rfl
 unfold RP
 rw [e1]
 exact rgBas_ok Cx.none_ok
def rp0 (fn:Func) (s:Nat):Act × Mem:=(sinit fn [bv s],[])
def rp1 (P:Program) (F:Fs) (fn:Func) (s:Nat):Act × Mem:=runL P (RP F) 60 [cL (bodyOf fn)] (rp0 fn s)
theorem rp_1 (F:Fs) (s:Nat):sexecL Tryz.prog (RP F) 60 [cL (bodyOf Tryz.f7)] [] (rp0 Tryz.f7 s)=some ([],rp1 Tryz.prog F Tryz.f7 s):=by kernel_rfl
theorem rp_code:bodyOf Tryz.f7=seqs [cL (bodyOf Tryz.f7)] (.seq (hC (bodyOf Tryz.f7)) (rtR (bodyOf Tryz.f7))):=by kernel_rfl
def rp2 (P:Program) (F:Fs) (fn:Func) (s:Nat):Act × Mem:=ahead P (RP F) (hC (bodyOf fn)) [0] (rp1 P F fn s)
theorem rp_2 (F:Fs) (s:Nat):sseq Tryz.prog (RP F) (rOps (hC (bodyOf Tryz.f7))) (rp1 Tryz.prog F Tryz.f7 s).2.length [0] [] ((rp1 Tryz.prog F Tryz.f7 s).1,(rp1 Tryz.prog F Tryz.f7 s).2 ++ List.replicate ((rOps (hC (bodyOf Tryz.f7))).toList.filter makes).length none)=some ([],rp2 Tryz.prog F Tryz.f7 s):=by kernel_rfl
theorem rp_2o (F:Fs) (s:Nat):okX [] (rp2 Tryz.prog F Tryz.f7 s).1.eval (.tmp 6)=true:=by kernel_rfl
theorem rp_2e (F:Fs) (s:Nat):(rp2 Tryz.prog F Tryz.f7 s).1.eval (.tmp 6)=bv s:=by kernel_rfl
theorem rp_2l (F:Fs) (s:Nat):(rp2 Tryz.prog F Tryz.f7 s).2.length=3:=by kernel_rfl
def rpA (P:Program) (F:Fs) (fn:Func) (s a cap:Nat) (q:List Value):Act × Mem:=((rp2 P F fn s).1.put (some 7) (.tuple #[bv a,.slice (some ⟨3,0,none⟩) 32 cap]),(rp2 P F fn s).2 ++ [some ⟨q,⟨5,(0,0)⟩⟩])
def rpB (P:Program) (F:Fs) (fn:Func) (s a cap:Nat) (q:List Value):Act × Mem:=seqS P (RP F) (rOps (hC (bodyOf fn))) 2 [2] (rpA P F fn s a cap q)
theorem rp_B (F:Fs) (s a cap:Nat) (q:List Value):sseq Tryz.prog (RP F) (rOps (hC (bodyOf Tryz.f7))) 2 [2] [] (rpA Tryz.prog F Tryz.f7 s a cap q)=some ([],rpB Tryz.prog F Tryz.f7 s a cap q):=by kernel_rfl
theorem rp_Bo (F:Fs) (s a cap:Nat) (q:List Value):okX [] (rpB Tryz.prog F Tryz.f7 s a cap q).1.eval (.tmp 5)=true:=by kernel_rfl
theorem rp_Be (F:Fs) (s a cap:Nat) (q:List Value):(rpB Tryz.prog F Tryz.f7 s a cap q).1.eval (.tmp 5) = .tuple #[bv a,.slice (some ⟨3,0,none⟩) 32 cap]:=by kernel_rfl
def rpD (P:Program) (F:Fs) (fn:Func) (s a cap:Nat) (q:List Value):Act × Mem:=((rpB P F fn s a cap q).1.put (some 8) (bv a),(rpB P F fn s a cap q).2)
theorem rp_Do (F:Fs) (s a cap:Nat) (q:List Value):okX [] (rpD Tryz.prog F Tryz.f7 s a cap q).1.eval (.tmp 5)=true:=by kernel_rfl
theorem rp_De (F:Fs) (s a cap:Nat) (q:List Value):(rpD Tryz.prog F Tryz.f7 s a cap q).1.eval (.tmp 5) = .tuple #[bv a,.slice (some ⟨3,0,none⟩) 32 cap]:=by kernel_rfl
def rpE (P:Program) (F:Fs) (fn:Func) (s a cap:Nat) (q:List Value):Act × Mem:=((rpD P F fn s a cap q).1.put (some 9) (.slice (some ⟨3,0,none⟩) 32 cap),(rpD P F fn s a cap q).2)
def rp3 (P:Program) (F:Fs) (fn:Func) (s a cap:Nat) (q:List Value):Act × Mem:=seqS P (RP F) (rOps (hC (bodyOf fn))) 2 [5,6,7] (rpE P F fn s a cap q)
theorem rp_3 (F:Fs) (s a cap:Nat) (q:List Value):sseq Tryz.prog (RP F) (rOps (hC (bodyOf Tryz.f7))) 2 [5,6,7] [] (rpE Tryz.prog F Tryz.f7 s a cap q)=some ([],rp3 Tryz.prog F Tryz.f7 s a cap q):=by kernel_rfl
def rp4 (P:Program) (F:Fs) (fn:Func) (s a cap:Nat) (q:List Value):Act × Mem:=runS P (RP F) 80 (rtR (bodyOf fn)) (rp3 P F fn s a cap q)
theorem rp_4 (F:Fs) (s a cap:Nat) (q:List Value):sexec Tryz.prog (RP F) 80 (rtR (bodyOf Tryz.f7)) [] (rp3 Tryz.prog F Tryz.f7 s a cap q)=some ([IsB (bv a)],.ret,rp4 Tryz.prog F Tryz.f7 s a cap q):=by kernel_rfl
theorem rp_4r (F:Fs) (s a cap:Nat) (q:List Value):sres Tryz.prog Tryz.f7 (rp4 Tryz.prog F Tryz.f7 s a cap q)=some (bv (F.bas (bnum (bv a)))):=by kernel_rfl
theorem rp_4d (F:Fs) (s a cap:Nat) (q:List Value):(rp4 Tryz.prog F Tryz.f7 s a cap q).1.defers = []:=by kernel_rfl
theorem rp_body {F:Fs} (hX:(RP F).Ok Tryz.prog) (hh:F.hlv=hlvN) (s:Nat) :
  SWn (fun _ _=>True) Tryz.prog [] (bodyOf Tryz.f7) (rp0 Tryz.f7 s) (fun e t=>(e = .normal∨e = .ret)∧t.1.defers = [] ∧ ∃ z,sres Tryz.prog Tryz.f7 t=some z∧(flat z=true∨z=undef)∧(∀ i B,getB ([]:Mem) i=some B→getB t.2 i=some B)∧z=bv (pubN F s)):=by
 rw [rp_code]
 refine SWn.preG hX mixed (RP_gl F) rfl (rp_1 F s) (by simp) (SWn.seq ?_)
 rw [show hC (bodyOf Tryz.f7) = .region (rId (hC (bodyOf Tryz.f7))) (rOps (hC (bodyOf Tryz.f7))) false from (by kernel_rfl)]
 refine SWn.region ?_
 rw [show List.range (rOps (hC (bodyOf Tryz.f7))).size = [0] ++ (1 :: ([2] ++ (3 :: (4 :: ([5,6,7] ++ []))))) from (by kernel_rfl)]
 refine SWL.steps hX (RP_gl F) (by simp) ?_ [0] [] _ (rp_2 F s)
 refine SWL.callT (c:=hC (bodyOf Tryz.f7)) (d:=7) (f:=14) (args := #[.tmp 6]) (ts := #[22]) (k:=32) (e:=5) (u:=bv (hlvN s).1) (R:=fun cap q=>OwnRow (bl (hlvN s).2) cap q) (by kernel_rfl) (by kernel_rfl) ?_ ?_
 ·intro r₀ w₀ A w r hH S
  have e1:=S.eval (rp_2o F s)
  rw [rp_2e,tr_flat _ _ (flat_bv s)] at e1
  simp only [Option.some.injEq] at e1
  rw [show (#[Operand.tmp 6]:Array Operand).map A.eval = #[A.eval (.tmp 6)] by simp,←e1]
  exact hvn_calls s w
 ·intro cap q hf hrow
  rw [rp_2l]
  refine SWL.steps hX (RP_gl F) (by simp) ?_ [2] [] _ (rp_B F s (hlvN s).1 cap q)
  refine SWL.extract2 (c:=hC (bodyOf Tryz.f7)) (d:=8) (k:=0) (x := .tmp 5) (by kernel_rfl) (rp_Bo F s (hlvN s).1 cap q) (rp_Be F s (hlvN s).1 cap q) (.inl ⟨rfl,rfl⟩) (fun r u' h=>h) ?_
  refine SWL.extract2 (c:=hC (bodyOf Tryz.f7)) (d:=9) (k:=1) (x := .tmp 5) (by kernel_rfl) (rp_Do F s (hlvN s).1 cap q) (rp_De F s (hlvN s).1 cap q) (.inr ⟨rfl,rfl⟩) (fun r u' h=>h) ?_
  refine SWL.steps hX (RP_gl F) (by simp) (SWL.nil ?_) [5,6,7] [] _ (rp_3 F s (hlvN s).1 cap q)
  refine SWn.runG hX mixed (RP_gl F) 80 (rp_4 F s (hlvN s).1 cap q) (fun p hp => ?_) ⟨.inr rfl,rp_4d F s _ cap q,_,rp_4r F s _ cap q,.inl (flat_bv _),fun i B hB=>by simp [getB] at hB,by rw [bnum_bv' (hlv_lt s).1];unfold pubN;rw [hh]⟩
  rw [List.mem_singleton.1 hp];exact isB_bv _
theorem rpub_any (s:Nat) (w:World):Calls Tryz.prog 7 #[bv s] w fun e w'=>e = .returned (bv (pubN R0 s))∧Below w.heap.size w w':=by
 refine (calls_of_SWn (H:=fun _ _=>True) (gl:=[]) (m:=[]) (args:=[bv s]) (R:=fun z=>z=bv (pubN R0 s)) Tryz.func7 (by kernel_rfl) (rp_body RP_ok R0_hlv s) (Rel.nil w) trivial (fun g hg=>by cases hg) (trL_mk (tr_flat _ _ (flat_bv s)) rfl)).mono ?_
 rintro e w' ⟨z,rfl,rfl,hb⟩
 exact ⟨rfl,hb⟩
theorem rPub_ok {X:Cx} (hX:X.Ok Tryz.prog):(X.pure 7 (gPubF R0)).Ok Tryz.prog:=by
 refine gBody_ok hX Tryz.func7 (by kernel_rfl) (by kernel_rfl) ?_
 intro args ps v ha hg hp
 unfold gPubF at hg
 split at hg
 ·rename_i A
  simp only [Option.some.injEq,Prod.mk.injEq] at hg
  obtain ⟨rfl,rfl⟩:=hg
  have hA:IsB A:=hp _ (List.mem_singleton.2 rfl)
  refine ⟨.inl (flat_bv _),fun w => ?_⟩
  have h:=rpub_any (bnum A) w
  rw [← (show A=bv (bnum A) from hA)] at h
  exact h
 ·simp at hg
end Go.Proofs.YtlihbglpdkeppaaGreatDoor.Edd
namespace Go.Proofs.YtlihbglpdkeppaaGreatDoor.Edd
open Go Go.RowKit Shf
set_option maxRecDepth 100000
def XS (F:Fs) (v:Sv) (y:List Value):Cx:=((((XW F).var MA 5 gAw).pure 7 (gPubF F)).read 8 (gMsg (gSgnF F v y))).read 9 (gMsg (gSgnF F v y))
theorem byteR_msg {v:Sv} {y:List Value} (hy:ByteR y):MsgOK v y:=fun u hu=>by obtain ⟨x,hx,_⟩:=hy u hu;exact ⟨x,hx⟩
theorem XS_ok {v:Sv} {y:List Value} (hy:ByteR y) (hn:y.length+400≤140737488355000):OkH (XS R0 v y) Tryz.prog (msgH v y) :=
 rSgn_ok (RG_ok (byteR_msg hy)) R0_hlv (gSgn_ok (EH_ok (byteR_msg hy)) (rPub_ok (gAw_ok XW_ok MA_cov)).h rfl (byteR_msg hy) (by omega)) rfl hy hn
def esK (F:Fs) (s:Nat):Nat:=pubN F (bnum (bv s))
def esR (F:Fs) (s:Nat) (y:List Value):Nat:=gC F (bnum (bv s)) y
def esS (F:Fs) (s:Nat) (y:List Value):Nat:=gS F (bnum (bv s)) y
def es0 (fn:Func) (v:Sv) (s:Nat):Act × Mem:=(sinit fn [bv s,raw v.val],MA)
def esT (F:Fs) (v:Sv) (y:List Value):Cx:=(XS F v y).tell [(11,true),(19,true)]
def esX (P:Program) (F:Fs) (fn:Func) (v:Sv) (y:List Value) (s:Nat):Act × Mem:=runS P (esT F v y) 60 (bodyOf fn) (es0 fn v s)
theorem es_gl (F:Fs) (v:Sv) (y:List Value):(esT F v y).gl=glA:=rfl
theorem es_x (F:Fs) (v:Sv) (y:List Value) (s:Nat):sexec Tryz.prog (esT F v y) 60 (bodyOf Tryz.f3) [] (es0 Tryz.f3 v s)=some ([IsB (bv s),IsB (bv s),eqB (bl (esK F s)).toArray (bl (esK F s)).toArray 32=true,IsB (bv s),pM v,IsB (bv s),pM v,eqB (bl (esR F s y) ++ bl (esS F s y)).toArray (bl (esR F s y) ++ bl (esS F s y)).toArray 64=true],.ret,esX Tryz.prog F Tryz.f3 v y s):=by kernel_rfl
theorem es_r (F:Fs) (v:Sv) (y:List Value) (s:Nat):sres Tryz.prog Tryz.f3 (esX Tryz.prog F Tryz.f3 v y s)=some (.bool true):=by kernel_rfl
theorem es_d (F:Fs) (v:Sv) (y:List Value) (s:Nat):(esX Tryz.prog F Tryz.f3 v y s).1.defers = []:=by kernel_rfl
theorem es_m (F:Fs) (v:Sv) (y:List Value) (s:Nat):(esX Tryz.prog F Tryz.f3 v y s).2=MA ++ (esX Tryz.prog F Tryz.f3 v y s).2.drop nA:=by kernel_rfl
theorem eqB_self (xs:Array Value) (n:Nat):eqB xs xs n=true:=by unfold eqB;simp
theorem es_gen {F:Fs} {v:Sv} {y:List Value} (hX:OkH (XS F v y) Tryz.prog (msgH v y)) (s:Nat) (w:World) (hw:Glo MA w) (hm:WSrc v.val v.n y w) :
  Calls Tryz.prog 3 #[bv s,v.val] w fun e w'=>e = .returned (.bool true)∧Below w.heap.size w w':=by
 have hgl' : ∀ g ∈ glA,glR MA g=some g:=fun g hg=>by
  have h1:(getB MA g).isSome=true:=List.all_eq_true.1 MA_in g hg
  obtain ⟨B,hB⟩:=Option.isSome_iff_exists.1 h1
  simp [glR,hB]
 have hb:SWn (msgH v y) Tryz.prog glA (bodyOf Tryz.f3) (sinit Tryz.f3 [bv s,raw v.val],MA) (FQ Tryz.f3 (.bool true)):=by
  refine SWn.runH (OkH.tell hX _) mixed (es_gl F v y) 60 (es_x F v y s) (fun p hp => ?_) ⟨.inr rfl,es_d F v y s,_,es_r F v y s,.inl rfl,fun i B hB=>by rw [es_m];exact getMA hB,rfl⟩
  simp only [List.mem_cons,List.not_mem_nil,or_false] at hp
  rcases hp with rfl | rfl | rfl | rfl | rfl | rfl | rfl | rfl
  ·exact isB_bv _
  ·exact isB_bv _
  ·exact eqB_self _ _
  ·exact isB_bv _
  ·exact pM_ok v
  ·exact isB_bv _
  ·exact pM_ok v
  ·exact eqB_self _ _
 refine (calls_of_SWn (H:=msgH v y) (gl:=glA) (R:=fun z=>z = .bool true) Tryz.func3 (by kernel_rfl) hb (hw.rel MA_flat) ⟨rfl,hw,hm⟩ hgl' (trL_mk (tr_flat _ _ (flat_bv s)) (trL_mk rfl rfl))).mono ?_
 rintro e w' ⟨z,rfl,rfl,hbel⟩
 exact ⟨rfl,hbel⟩
theorem signs_any {v:Sv} {y:List Value} (hy:ByteR y) (hn:y.length+400≤140737488355000) (s:Nat) (hs:s<RN) (w:World) (hw:Glo MA w) (hm:WSrc v.val v.n y w) :
  Calls Tryz.prog 3 #[bv s,v.val] w fun e w'=>e = .returned (.bool true)∧Below w.heap.size w w':=es_gen (XS_ok hy hn) s w hw hm
end Go.Proofs.YtlihbglpdkeppaaGreatDoor.Edd
