/- eddsa: Sign. -/
import Derived.Test.YtlihbglpdkeppaaGreatDoorEddA
set_option linter.unusedSimpArgs false
set_option linter.unusedVariables false
namespace Go.Proofs.YtlihbglpdkeppaaGreatDoor.Edd
open Go Go.RowKit Shf
open Cat (Parts catC catM catY catN catH catOK cat_calls catY_succ)
variable {r₀ r:Ren} {w₀ w:World} {m:Mem}
def gA (F:Fs) (s:Nat):Nat:=(F.hlv (bnum (bv s))).1
def gP (F:Fs) (s:Nat):Nat:=(F.hlv (bnum (bv s))).2
def gY1 (F:Fs) (s:Nat) (y:List Value):List Value:=((bl (gP F s)).drop 0).take 32 ++ (y ++ [])
def gR (F:Fs) (s:Nat) (y:List Value):Nat:=F.hsh (gY1 F s y)
def gC (F:Fs) (s:Nat) (y:List Value):Nat:=F.bas (bnum (bv (gR F s y)))
def gK (F:Fs) (s:Nat):Nat:=F.bas (bnum (bv (gA F s)))
def gY2 (F:Fs) (s:Nat) (y:List Value):List Value:=((bl (gC F s y)).drop 0).take 32 ++ (((bl (gK F s)).drop 0).take 32 ++ (y ++ []))
def gH (F:Fs) (s:Nat) (y:List Value):Nat:=F.hsh (gY2 F s y)
def gS (F:Fs) (s:Nat) (y:List Value):Nat:=F.mu (Sc.bnum (bv (gH F s y))) (Sc.bnum (bv (gA F s))) (Sc.bnum (bv (gR F s y)))
def p32 (n:Nat):Prop:=0+32≤(bl n).length∧(((bl n).drop 0).take 32).all (isInt .u8)=true
def pM (v:Sv):Prop:=v.x=v.x∧v.n=v.n∧v.c=v.c
def pZ (l:List Value):Prop:=0<l.length∧l.length≤140737488355328
def sgT (F:Fs) (v:Sv) (y:List Value) (s:Nat):List Prop :=
 [IsB (bv s),p32 (gP F s),pM v,pZ (gY1 F s y),IsB (bv (gR F s y)),IsB (bv (gA F s)),p32 (gC F s y),p32 (gK F s),pM v,pZ (gY2 F s y),Sc.IsB (bv (gH F s y))∧Sc.IsB (bv (gA F s))∧Sc.IsB (bv (gR F s y))]
def sgP (c:Code):List Code:=[cL c,cL (cR c),cL (cR (cR c)),cL (cR (cR (cR c))),cL (cR (cR (cR (cR c)))),cL (cR (cR (cR (cR (cR c))))),cL (cR (cR (cR (cR (cR (cR c))))))]
def sgE (c:Code):Code:=cL (cR (cR (cR (cR (cR (cR (cR c)))))))
theorem sg_code:bodyOf Tryz.f8=seqs (sgP (bodyOf Tryz.f8)) (.seq (sgE (bodyOf Tryz.f8)) .ret):=by kernel_rfl
def sg0 (fn:Func) (v:Sv) (s:Nat):Act × Mem:=(sinit fn [bv s,raw v.val],MA)
def sg1 (P:Program) (F:Fs) (fn:Func) (v:Sv) (y:List Value) (s:Nat):Act × Mem:=runL P (EH F v y) 60 (sgP (bodyOf fn)) (sg0 fn v s)
theorem sg_1 (F:Fs) (v:Sv) (y:List Value) (s:Nat):sexecL Tryz.prog (EH F v y) 60 (sgP (bodyOf Tryz.f8)) [] (sg0 Tryz.f8 v s)=some (sgT F v y s,sg1 Tryz.prog F Tryz.f8 v y s):=by kernel_rfl
theorem SWO.load {H:Ren→World→Prop} {gl:List Nat} {P:Program} {Q:Exit→Act × Mem→Prop} {ops:Array Oper} {s:Act × Mem} {n:Nat} {listed:Array Bool} {i d:Nat} {t:TypeId} {x:Operand} {b k:Nat} {u:Value}
  (ho:(ops[i]?).map (fun o=>(o.guard,o.op,o.dst))=some (none,.load t x,some d)) (hx:okX gl s.1.eval x=true) (he:s.1.eval x = .pointer (some ⟨b,k,none⟩)) (hl:sload P t b k s.2=some u)
  (h:SWA H P gl ops n (listed.setIfInBounds i true) (s.1.put (some d) u,s.2) Q):SWO H P gl ops n listed i s Q:=by
 intro r₀ w₀ A w r hH S
 cases hoi:ops[i]? with
 | none=>rw [hoi] at ho;simp at ho
 | some o =>
  rw [hoi] at ho
  simp only [Option.map_some,Option.some.injEq,Prod.mk.injEq] at ho
  obtain ⟨o1,o2,o3⟩:=ho
  unfold wpOp
  simp only [hoi]
  have hw:Region.wanted o (yielded ops A.tmps)=true:=by unfold Region.wanted;rw [o1]
  rw [if_pos hw]
  refine .inl ?_
  have h1:=S.eval hx
  rw [he] at h1
  obtain ⟨c,hc,e⟩:=tr_ptr h1
  obtain ⟨v',h2,h3⟩:=load_run S.rel hc hl
  refine wp_of_run (v:=v') (w':=w) (by simp [execOp,o2,e,Instr.loadAt,Instr.sureAddr,h3]) ?_
  have S':=S.put0 h2 o.dst
  rw [o3] at S' ⊢
  exact h r₀ w₀ _ _ _ hH S'
theorem concat_msg {v:Sv} {y:List Value} (hy:MsgOK v y) {s:Act × Mem} {L p:Nat} {x:Operand} {B:Blk} {ts:List Prop} {bs:List Value} (hx:okX glA s.1.eval x=true) (he:s.1.eval x = .slice (some ⟨L,0,none⟩) p p) (hB:getB s.2 L=some B) (hp:B.cells.length=p) (hp2:p≤1000) (hg:gHas MA s.2=true) (hL:(getB MA L).isNone=true) (hpo:piecesOf v y s.2 L B.cells=some (ts,bs)) (ht : ∀ p ∈ ts,p) (hz:pZ bs) :
  ∀ r₀ w₀ A w r,msgH v y r₀ w₀→Sim glA r₀ w₀ s.1 s.2 A w r→CallOK Tryz.prog 18 ((#[x]:Array Operand).map A.eval) w fun v' w' => ∃ c cap q,v' = .slice (some ⟨c,0,none⟩) bs.length cap∧w.heap.size≤c∧w'.heap[c]? = some (.cells q.toArray 5 (0,0))∧q.all flat1=true∧OwnRow bs cap q∧Below w.heap.size w w':=by
 intro r₀ w₀ A w r hH S
 have hr:=S.rel
 have hG:Glo MA w:=hr.glo hg MA_flat fun g hg=>S.glob g (coversG_get MA_cov hg)
 have hmsg:=msg_now hH S.fr hG
 obtain ⟨cL,cs,q1,q2,q3⟩:=hr.cells L B hB
 have hnew:w₀.heap.size≤cL:=by
  rcases S.ext.2 L cL q1 with h | h
  ·rw [hH.1] at h
   have:=glR_dom h
   rw [Option.isNone_iff_eq_none] at hL
   rw [hL] at this;cases this
  ·exact h
 have hna:Cat.notAt cL v.val:=by
  obtain ⟨_,⟨c,hv,h0⟩ | ⟨c,o,cap,hv,hcl,_⟩⟩:=hH.2.2
  ·rw [hv];trivial
  ·rw [hv]
   right
   show c≠cL
   omega
 obtain ⟨ps,e1,e2,e3,e4⟩:=parts_of hy hr q1 hmsg hna B.cells cs ts bs q2 hpo ht
 have hcat:catY ps ps.length=bs:=by unfold catY;rw [List.take_length];exact e2
 have hcn:catN ps ps.length=bs.length:=by unfold catN;rw [hcat]
 have hlen:ps.length=p:=by omega
 have ev:=S.eval hx
 rw [he] at ev
 obtain ⟨c',hc',e5⟩:=tr_slice ev
 rw [q1] at hc';cases hc'
 have h:=cat_calls ps (fun q hq=>⟨u8_flat (e4 q hq).2.1,(e4 q hq).1⟩) (by omega) (by rw [hcn];exact hz.1) (by rw [hcn];exact hz.2) (c:=cL) (ty:=B.ty) (by rw [q3,e1]) (fun q hq=>⟨(e4 q hq).2.2.1,(e4 q hq).2.2.2⟩)
 rw [hcn,hcat,hlen] at h
 rw [show (#[x]:Array Operand).map A.eval = #[A.eval x] by simp,e5]
 exact h
def sgv (R S:Nat):Value := .agg (bl R ++ bl S).toArray
theorem sg_reg:sgE (bodyOf Tryz.f8) = .region (rId (sgE (bodyOf Tryz.f8))) (rOps (sgE (bodyOf Tryz.f8))) true:=by kernel_rfl
theorem rd0:Region.ready .any (rOps (sgE (bodyOf Tryz.f8))) (Array.replicate (rOps (sgE (bodyOf Tryz.f8))).size false) = [0,1]:=by kernel_rfl
theorem rd1:Region.ready .any (rOps (sgE (bodyOf Tryz.f8))) ((Array.replicate (rOps (sgE (bodyOf Tryz.f8))).size false).setIfInBounds 0 true) = [1]:=by kernel_rfl
theorem rd2:Region.ready .any (rOps (sgE (bodyOf Tryz.f8))) ((Array.replicate (rOps (sgE (bodyOf Tryz.f8))).size false).setIfInBounds 1 true) = [0]:=by kernel_rfl
def l2 (P:Program) (ops:Array Oper):Array Bool:=((Array.replicate ops.size false).setIfInBounds 0 true).setIfInBounds 1 true
def l3 (P:Program) (ops:Array Oper):Array Bool:=(l2 P ops).setIfInBounds 2 true
def l4 (P:Program) (ops:Array Oper):Array Bool:=(l3 P ops).setIfInBounds 3 true
def l5 (P:Program) (ops:Array Oper):Array Bool:=(l4 P ops).setIfInBounds 4 true
def l6 (P:Program) (ops:Array Oper):Array Bool:=(l5 P ops).setIfInBounds 5 true
def l7 (P:Program) (ops:Array Oper):Array Bool:=(l6 P ops).setIfInBounds 6 true
theorem rd3:Region.ready .any (rOps (sgE (bodyOf Tryz.f8))) (l2 Tryz.prog (rOps (sgE (bodyOf Tryz.f8)))) = [2]:=by kernel_rfl
theorem rd4:Region.ready .any (rOps (sgE (bodyOf Tryz.f8))) (l3 Tryz.prog (rOps (sgE (bodyOf Tryz.f8)))) = [3]:=by kernel_rfl
theorem rd5:Region.ready .any (rOps (sgE (bodyOf Tryz.f8))) (l4 Tryz.prog (rOps (sgE (bodyOf Tryz.f8)))) = [4]:=by kernel_rfl
theorem rd6:Region.ready .any (rOps (sgE (bodyOf Tryz.f8))) (l5 Tryz.prog (rOps (sgE (bodyOf Tryz.f8)))) = [5]:=by kernel_rfl
theorem rd7:Region.ready .any (rOps (sgE (bodyOf Tryz.f8))) (l6 Tryz.prog (rOps (sgE (bodyOf Tryz.f8)))) = [6]:=by kernel_rfl
theorem rd8:Region.ready .any (rOps (sgE (bodyOf Tryz.f8))) (l7 Tryz.prog (rOps (sgE (bodyOf Tryz.f8)))) = []:=by kernel_rfl
theorem l2':((Array.replicate (rOps (sgE (bodyOf Tryz.f8))).size false).setIfInBounds 1 true).setIfInBounds 0 true=l2 Tryz.prog (rOps (sgE (bodyOf Tryz.f8))):=by kernel_rfl
def sstS (P:Program) (X:Cx) (ops:Array Oper) (h0 i:Nat) (s:Act × Mem):Act × Mem :=
 match sstep P X ops h0 i s with
 | some (_,s')=>s'
 | none=>s
def sg2 (P:Program) (F:Fs) (fn:Func) (v:Sv) (y:List Value) (s:Nat):Act × Mem:=((sg1 P F fn v y s).1,(sg1 P F fn v y s).2 ++ List.replicate ((rOps (sgE (bodyOf fn))).toList.filter makes).length none)
def sgn (P:Program) (F:Fs) (fn:Func) (v:Sv) (y:List Value) (s i:Nat) (t:Act × Mem):Act × Mem:=sstS P (EH F v y) (rOps (sgE (bodyOf fn))) (nA+11) i t
theorem st0 (F:Fs) (v:Sv) (y:List Value) (s:Nat):sstep Tryz.prog (EH F v y) (rOps (sgE (bodyOf Tryz.f8))) (nA+11) 0 (sg2 Tryz.prog F Tryz.f8 v y s)=some ([],sgn Tryz.prog F Tryz.f8 v y s 0 (sg2 Tryz.prog F Tryz.f8 v y s)):=by kernel_rfl
theorem st1 (F:Fs) (v:Sv) (y:List Value) (s:Nat):sstep Tryz.prog (EH F v y) (rOps (sgE (bodyOf Tryz.f8))) (nA+11) 1 (sg2 Tryz.prog F Tryz.f8 v y s)=some ([],sgn Tryz.prog F Tryz.f8 v y s 1 (sg2 Tryz.prog F Tryz.f8 v y s)):=by kernel_rfl
theorem st01 (F:Fs) (v:Sv) (y:List Value) (s:Nat):sstep Tryz.prog (EH F v y) (rOps (sgE (bodyOf Tryz.f8))) (nA+11) 1 (sgn Tryz.prog F Tryz.f8 v y s 0 (sg2 Tryz.prog F Tryz.f8 v y s))=some ([],sgn Tryz.prog F Tryz.f8 v y s 1 (sgn Tryz.prog F Tryz.f8 v y s 0 (sg2 Tryz.prog F Tryz.f8 v y s))):=by kernel_rfl
theorem st10 (F:Fs) (v:Sv) (y:List Value) (s:Nat):sstep Tryz.prog (EH F v y) (rOps (sgE (bodyOf Tryz.f8))) (nA+11) 0 (sgn Tryz.prog F Tryz.f8 v y s 1 (sg2 Tryz.prog F Tryz.f8 v y s))=some ([],sgn Tryz.prog F Tryz.f8 v y s 1 (sgn Tryz.prog F Tryz.f8 v y s 0 (sg2 Tryz.prog F Tryz.f8 v y s))):=by kernel_rfl
def sg3 (P:Program) (F:Fs) (fn:Func) (v:Sv) (y:List Value) (s:Nat):Act × Mem:=sgn P F fn v y s 2 (sgn P F fn v y s 1 (sgn P F fn v y s 0 (sg2 P F fn v y s)))
theorem st2 (F:Fs) (v:Sv) (y:List Value) (s:Nat):sstep Tryz.prog (EH F v y) (rOps (sgE (bodyOf Tryz.f8))) (nA+11) 2 (sgn Tryz.prog F Tryz.f8 v y s 1 (sgn Tryz.prog F Tryz.f8 v y s 0 (sg2 Tryz.prog F Tryz.f8 v y s)))=some ([],sg3 Tryz.prog F Tryz.f8 v y s):=by kernel_rfl
theorem sg3_ok (F:Fs) (v:Sv) (y:List Value) (s:Nat):okX glA (sg3 Tryz.prog F Tryz.f8 v y s).1.eval (.tmp 36)=true:=by kernel_rfl
theorem sg3_e (F:Fs) (v:Sv) (y:List Value) (s:Nat):(sg3 Tryz.prog F Tryz.f8 v y s).1.eval (.tmp 36) = .slice (some ⟨nA+11,0,none⟩) 2 2:=by kernel_rfl
def sgL:List Value:=[.slice (some ⟨nA+6,0,none⟩) 32 32,.slice (some ⟨nA+10,0,none⟩) 32 32]
theorem sg3_b (F:Fs) (v:Sv) (y:List Value) (s:Nat):getB (sg3 Tryz.prog F Tryz.f8 v y s).2 (nA+11)=some ⟨sgL,23⟩:=by kernel_rfl
theorem sg3_g (F:Fs) (v:Sv) (y:List Value) (s:Nat):gHas MA (sg3 Tryz.prog F Tryz.f8 v y s).2=true:=by kernel_rfl
theorem sg3_n:(getB MA (nA+11)).isNone=true:=by kernel_rfl
theorem sg3_l (F:Fs) (v:Sv) (y:List Value) (s:Nat):(sg3 Tryz.prog F Tryz.f8 v y s).2.length=nA+12:=by kernel_rfl
def sgB (F:Fs) (s:Nat) (y:List Value):List Value:=((bl (gC F s y)).drop 0).take 32 ++ (((bl (gS F s y)).drop 0).take 32 ++ [])
theorem sg3_p (F:Fs) (v:Sv) (y:List Value) (s:Nat):piecesOf v y (sg3 Tryz.prog F Tryz.f8 v y s).2 (nA+11) sgL=some ([p32 (gC F s y),p32 (gS F s y)],sgB F s y):=by kernel_rfl
theorem sgB_len (F:Fs) (s:Nat) (y:List Value):(sgB F s y).length=64:=by kernel_rfl
def sg4 (P:Program) (F:Fs) (fn:Func) (v:Sv) (y:List Value) (s cap:Nat) (q:List Value):Act × Mem:=((sg3 P F fn v y s).1.put (some 37) (.slice (some ⟨nA+12,0,none⟩) 64 cap),(sg3 P F fn v y s).2 ++ [some ⟨q,⟨5,(0,0)⟩⟩])
def sg5 (P:Program) (F:Fs) (fn:Func) (v:Sv) (y:List Value) (s cap:Nat) (q:List Value):Act × Mem:=sgn P F fn v y s 4 (sg4 P F fn v y s cap q)
theorem st4 (F:Fs) (v:Sv) (y:List Value) (s cap:Nat) (q:List Value):sstep Tryz.prog (EH F v y) (rOps (sgE (bodyOf Tryz.f8))) (nA+11) 4 (sg4 Tryz.prog F Tryz.f8 v y s cap q)=some ([],sg5 Tryz.prog F Tryz.f8 v y s cap q):=by kernel_rfl
theorem sg5_ok (F:Fs) (v:Sv) (y:List Value) (s cap:Nat) (q:List Value):okX glA (sg5 Tryz.prog F Tryz.f8 v y s cap q).1.eval (.tmp 38)=true:=by kernel_rfl
theorem sg5_e (F:Fs) (v:Sv) (y:List Value) (s cap:Nat) (q:List Value):(sg5 Tryz.prog F Tryz.f8 v y s cap q).1.eval (.tmp 38) = .pointer (some ⟨nA+12,0,none⟩):=by kernel_rfl
theorem sg5_m (F:Fs) (v:Sv) (y:List Value) (s cap:Nat) (q:List Value):getB (sg5 Tryz.prog F Tryz.f8 v y s cap q).2 (nA+12)=some ⟨q,⟨5,(0,0)⟩⟩:=by kernel_rfl
theorem row64:rowT Tryz.prog 26=some (true,64):=by kernel_rfl
def sg6 (P:Program) (F:Fs) (fn:Func) (v:Sv) (y:List Value) (s cap:Nat) (q:List Value):Act × Mem:=((sg5 P F fn v y s cap q).1.put (some 39) (.agg (sgB F s y).toArray),(sg5 P F fn v y s cap q).2)
def sg7 (P:Program) (F:Fs) (fn:Func) (v:Sv) (y:List Value) (s cap:Nat) (q:List Value):Act × Mem:=sgn P F fn v y s 6 (sg6 P F fn v y s cap q)
theorem st6 (F:Fs) (v:Sv) (y:List Value) (s cap:Nat) (q:List Value):sstep Tryz.prog (EH F v y) (rOps (sgE (bodyOf Tryz.f8))) (nA+11) 6 (sg6 Tryz.prog F Tryz.f8 v y s cap q)=some ([],sg7 Tryz.prog F Tryz.f8 v y s cap q):=by kernel_rfl
theorem sg7_r (F:Fs) (v:Sv) (y:List Value) (s cap:Nat) (q:List Value):sres Tryz.prog Tryz.f8 (sg7 Tryz.prog F Tryz.f8 v y s cap q)=some (sgv (gC F s y) (gS F s y)):=by kernel_rfl
theorem sg7_d (F:Fs) (v:Sv) (y:List Value) (s cap:Nat) (q:List Value):(sg7 Tryz.prog F Tryz.f8 v y s cap q).1.defers = []:=by kernel_rfl
theorem sg7_m (F:Fs) (v:Sv) (y:List Value) (s cap:Nat) (q:List Value):(sg7 Tryz.prog F Tryz.f8 v y s cap q).2=MA ++ (sg7 Tryz.prog F Tryz.f8 v y s cap q).2.drop nA:=by kernel_rfl
end Go.Proofs.YtlihbglpdkeppaaGreatDoor.Edd
namespace Go.Proofs.YtlihbglpdkeppaaGreatDoor.Edd
open Go Go.RowKit Shf
theorem p32_ok (n:Nat):p32 n:=⟨by rw [bl_len];omega,by kernel_rfl⟩
theorem pM_ok (v:Sv):pM v:=⟨rfl,rfl,rfl⟩
theorem take32 (n:Nat):((bl n).drop 0).take 32=bl n:=by
 rw [List.drop_zero];exact List.take_of_length_le (by rw [bl_len];omega)
theorem pZ_of {l:List Value} {n k:Nat} (h:l.length=k+n) (hk:0<k) (hk2:k≤200) (hn:n+400≤140737488355328):pZ l:=⟨by omega,by omega⟩
theorem sgT_ok {F:Fs} {v:Sv} {y:List Value} (hn:y.length+400≤140737488355328) (s:Nat) : ∀ p ∈ sgT F v y s,p:=by
 intro p hp
 simp only [sgT,List.mem_cons,List.not_mem_nil,or_false] at hp
 rcases hp with rfl | rfl | rfl | rfl | rfl | rfl | rfl | rfl | rfl | rfl | rfl
 ·exact isB_bv _
 ·exact p32_ok _
 ·exact pM_ok v
 ·exact pZ_of (n:=y.length) (k:=32) (by unfold gY1;rw [take32];simp [bl_len]) (by omega) (by omega) hn
 ·exact isB_bv _
 ·exact isB_bv _
 ·exact p32_ok _
 ·exact p32_ok _
 ·exact pM_ok v
 ·exact pZ_of (n:=y.length) (k:=64) (by unfold gY2;rw [take32,take32];simp [bl_len];omega) (by omega) (by omega) hn
 ·exact ⟨sc_isB.2 (isB_bv _),sc_isB.2 (isB_bv _),sc_isB.2 (isB_bv _)⟩
theorem getMA {x:Mem} {i:Nat} {B:Blk} (h:getB MA i=some B):getB (MA ++ x) i=some B:=by
 have hl:=getB_lt h
 unfold getB at h ⊢
 rw [List.getElem?_append_left hl];exact h
def FQ (fn:Func) (u:Value):Exit→Act × Mem→Prop:=fun e s=>(e = .normal∨e = .ret)∧s.1.defers = [] ∧ ∃ z,sres Tryz.prog fn s=some z∧(flat z=true∨z=undef)∧(∀ i B,getB MA i=some B→getB s.2 i=some B)∧z=u
theorem flat_sgv (R S:Nat):flat (sgv R S)=true:=by kernel_rfl
theorem sg_body {F:Fs} {v:Sv} {y:List Value} (hX:OkH (EH F v y) Tryz.prog (msgH v y)) (hy:MsgOK v y) (hn:y.length+400≤140737488355328) (s:Nat) :
  SWn (msgH v y) Tryz.prog glA (bodyOf Tryz.f8) (sg0 Tryz.f8 v s) (FQ Tryz.f8 (sgv (gC F s y) (gS F s y))):=by
 rw [sg_code]
 refine SWn.preH hX mixed (EH_gl F v y) rfl (sg_1 F v y s) (sgT_ok hn s) (SWn.seq ?_)
 rw [sg_reg]
 refine SWn.regionA mixed ?_
 have hg:=EH_gl F v y
 have key:SWA (msgH v y) Tryz.prog glA (rOps (sgE (bodyOf Tryz.f8))) 5 (l2 Tryz.prog (rOps (sgE (bodyOf Tryz.f8)))) (sgn Tryz.prog F Tryz.f8 v y s 1 (sgn Tryz.prog F Tryz.f8 v y s 0 (sg2 Tryz.prog F Tryz.f8 v y s))) (thenS (fun s'=>SWn (msgH v y) Tryz.prog glA .ret s' (FQ Tryz.f8 (sgv (gC F s y) (gS F s y)))) (FQ Tryz.f8 (sgv (gC F s y) (gS F s y)))):=by
  refine SWA.one rd3 (SWO.step hX hg (st2 F v y s) (by simp) (SWA.one rd4 ?_))
  have hcall:=concat_msg (v:=v) (y:=y) hy (s:=sg3 Tryz.prog F Tryz.f8 v y s) (p:=2) (ts:=[p32 (gC F s y),p32 (gS F s y)]) (bs:=sgB F s y) (sg3_ok F v y s) (sg3_e F v y s) (sg3_b F v y s) rfl (by omega) (sg3_g F v y s) sg3_n (sg3_p F v y s) (fun p hp=>by
   simp only [List.mem_cons,List.not_mem_nil,or_false] at hp
   rcases hp with rfl | rfl <;> exact p32_ok _) ⟨by rw [sgB_len];omega,by rw [sgB_len];omega⟩
  rw [sgB_len] at hcall
  refine SWO.callN (d:=37) (ts := #[60]) (by kernel_rfl) hcall fun cap q hf hrow => ?_
  rw [sg3_l]
  refine SWA.one rd5 (SWO.step hX hg (st4 F v y s cap q) (by simp) (SWA.one rd6 ?_))
  have hl:=hrow.len
  have hle:=hrow.le
  rw [sgB_len] at hle
  have hld:sload Tryz.prog 26 (nA+12) 0 (sg5 Tryz.prog F Tryz.f8 v y s cap q).2=some (.agg (sgB F s y).toArray):=by
   unfold sload
   rw [sg5_m,row64]
   simp only
   rw [if_pos (by omega),List.drop_zero]
   have:=hrow.eq
   rw [sgB_len] at this
   rw [this]
  refine SWO.load (d:=39) (t:=26) (x := .tmp 38) (by kernel_rfl) (sg5_ok F v y s cap q) (sg5_e F v y s cap q) hld ?_
  refine SWA.one rd7 (SWO.step hX hg (st6 F v y s cap q) (by simp) (SWA.nil rd8 ?_))
  refine SW.n (SW.ret ⟨.inr rfl,sg7_d F v y s cap q,_,sg7_r F v y s cap q,.inl (flat_sgv _ _),fun i B hB => ?_,rfl⟩)
  rw [sg7_m];exact getMA hB
 have hsz:(rOps (sgE (bodyOf Tryz.f8))).size=7:=by kernel_rfl
 show SWA (msgH v y) Tryz.prog glA (rOps (sgE (bodyOf Tryz.f8))) (rOps (sgE (bodyOf Tryz.f8))).size (Array.replicate (rOps (sgE (bodyOf Tryz.f8))).size false) (sg2 Tryz.prog F Tryz.f8 v y s) _
 rw [show (rOps (sgE (bodyOf Tryz.f8))).size=7 from hsz]
 have e0:Array.replicate 7 false=Array.replicate (rOps (sgE (bodyOf Tryz.f8))).size false:=by rw [hsz]
 rw [e0]
 refine SWA.two rd0 (SWO.step hX hg (st0 F v y s) (by simp) (SWA.one rd1 (SWO.step hX hg (st01 F v y s) (by simp) key))) (SWO.step hX hg (st1 F v y s) (by simp) (SWA.one rd2 (SWO.step hX hg (st10 F v y s) (by simp) ?_)))
 rw [l2'];exact key
def gSgnF (F:Fs) (v:Sv) (y:List Value):List Value→Option (List Prop × Value)
 | [A,.tuple ⟨[.slice x n c]⟩]=>some ([IsB A,x=v.x∧n=v.n∧c=v.c],sgv (gC F (bnum A) y) (gS F (bnum A) y))
 | _=>none
theorem gSgn_ok {X:Cx} {F:Fs} {v:Sv} {y:List Value} (hE:OkH (EH F v y) Tryz.prog (msgH v y)) (hX:OkH X Tryz.prog (msgH v y)) (hgl:X.gl=glA) (hy:MsgOK v y) (hn:y.length+400≤140737488355328):OkH (X.read 8 (gMsg (gSgnF F v y))) Tryz.prog (msgH v y):=by
 refine gMsg_ok hX hgl Tryz.func8 (by kernel_rfl) (show _=some (bodyOf Tryz.f8) from (by kernel_rfl)) ?_
 intro args ps u hg hp
 unfold gSgnF at hg
 split at hg
 ·rename_i A x n c
  simp only [Option.some.injEq,Prod.mk.injEq] at hg
  obtain ⟨rfl,rfl⟩:=hg
  have hA:A=bv (bnum A):=hp _ List.mem_cons_self
  obtain ⟨rfl,rfl,rfl⟩:x=v.x∧n=v.n∧c=v.c:=hp _ (List.mem_cons_of_mem _ (List.mem_singleton.2 rfl))
  refine ⟨flat_sgv _ _,?_⟩
  have h:=sg_body hE hy hn (bnum A)
  unfold sg0 at h
  rw [←hA] at h
  exact h
 ·simp at hg
end Go.Proofs.YtlihbglpdkeppaaGreatDoor.Edd
namespace Go.Proofs.YtlihbglpdkeppaaGreatDoor.Edd
open Go Go.RowKit Shf
def vY (F:Fs) (A R:Nat) (y:List Value):List Value:=((bl R).drop 0).take 32 ++ (((bl A).drop 0).take 32 ++ (y ++ []))
def vK (F:Fs) (A R:Nat) (y:List Value):Nat:=F.hsh (vY F A R y)
def vs0 (fn:Func) (v:Sv) (A R S:Nat):Act × Mem:=(sinit fn [bv A,raw v.val,sgv R S],MA)
def tT (F:Fs) (v:Sv) (y:List Value) (A R S:Nat):List Prop:=[p32 R,p32 A,pM v,pZ (vY F A R y),IsB (bv S)∧IsB (bv (vK F A R y))∧IsB (bv A)]
end Go.Proofs.YtlihbglpdkeppaaGreatDoor.Edd
