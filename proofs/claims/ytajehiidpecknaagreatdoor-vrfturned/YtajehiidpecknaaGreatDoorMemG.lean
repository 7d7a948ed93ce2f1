import Derived.Test.YtajehiidpecknaaGreatDoorMemE
set_option linter.all false
namespace Go.Proofs.YtajehiidpecknaaGreatDoor
open Go Go.RowKit
def ag (fn:Func):Code:=fn.body.getD .skip
theorem mixed:Tryz.prog.follows .mixedOrders=true:=by kernel_rfl
theorem aA {X : Cx} (hX : X.Ok Tryz.prog) {f : FuncId} {fn : Func} {g : List Value → Option (List Prop × Value)} (hf : Tryz.prog.funcs[f]? = some fn) (hname : (fn.name == "runtime.NumGoroutine") = false) (hb : fn.body = some (ag fn))
  (h : ∀ args ps v,args.all flat=true→g args=some (ps,v)→(∀ p ∈ ps,p)→(flat v=true∨v=undef) ∧ ∀ w,Calls Tryz.prog f args.toArray w fun e w'=>e = .returned v∧Below w.heap.size w w'):(X.pure f g).Ok Tryz.prog :=
 Cx.pure_ok hX fun args ps v ha hg hp=>⟨(h args ps v ha hg hp).1,fun w=>fk hf hname hb (((h args ps v ha hg hp).2 w).mono (by rintro e w' ⟨rfl,hb⟩;exact ⟨_,rfl,rfl,hb⟩))⟩
end Go.Proofs.YtajehiidpecknaaGreatDoor
namespace Go.Proofs.YtajehiidpecknaaGreatDoor
open Go Go.RowKit
variable {r:Ren} {w:World} {m:Mem} {P:Program} {X:Cx}
def eqCs:List Value→List Value→Bool
 | [],[]=>true
 | .int k a :: l,.int k' b :: l'=>decide (k=k') && (decide (a=b) && eqCs l l')
 | _,_=>false
theorem yR : ∀ {l l':List Value},eqCs l l'=true→l=l'
 | [],[],_=>rfl
 | .int k a :: l,.int k' b :: l',h=>by
  simp only [eqCs,Bool.and_eq_true,decide_eq_true_eq] at h
  obtain ⟨rfl,rfl,h⟩:=h
  rw [yR h]
def gHas1 (M0 m:Mem) (b:Nat):Bool :=
 match bn M0 b with
 | none=>true
 | some B=>match bn m b with
  | some B'=>decide (B'.ty=B.ty) && eqCs B'.cells B.cells
  | none=>false
def mw (M0 m:Mem):Bool:=(List.range M0.length).all (gHas1 M0 m)
theorem po {M0:Mem} (h:mw M0 m=true) {b:Nat} {B:Blk} (hB:bn M0 b=some B):bn m b=some B:=by
 have:=List.all_eq_true.1 h b (List.mem_range.2 (je hB))
 unfold gHas1 at this
 rw [hB] at this
 simp only at this
 split at this
 ·rename_i B' h'
  simp only [Bool.and_eq_true,decide_eq_true_eq] at this
  obtain ⟨e1,e2⟩:=this
  rw [h']
  cases B';cases B
  simp only at e1 e2
  rw [e1,yR e2]
 ·simp at this
theorem qa {M0:Mem} {i:Nat} {B:Blk} (hi:m[i]? = some none) (h:mw M0 m=true):mw M0 (m.set i (some B))=true:=by
 refine List.all_eq_true.2 fun b hb => ?_
 have h1:=List.all_eq_true.1 h b hb
 unfold gHas1 at h1 ⊢
 split at h1
 ·rfl
 ·rename_i B0 h0
  have hg:=po h h0
  have hne:b≠i:=fun e=>by subst e;rw [k9 hi] at hg;cases hg
  rw [dP hne];exact h1
def Glo (M0:Mem) (w:World):Prop := ∀ b B,bn M0 b=some B→w.heap[b]? = some (.cells B.cells.toArray B.ty.id B.ty.fz)
theorem Glo.below {M0:Mem} {w w':World} (h:Glo M0 w) (hb:Below w.heap.size w w'):Glo M0 w':=fun b B hB=>by
 have h1:=h b B hB
 have hl:b<w.heap.size:=by
  rcases Nat.lt_or_ge b w.heap.size with h | h
  ·exact h
  ·rw [Array.getElem?_eq_none h] at h1;cases h1
 rw [hb.block b hl];exact h1
def jy (M0:Mem):Bool:=M0.all fun o=>match o with
 | some B=>B.cells.all flat1
 | none=>true
theorem lF {M0:Mem} (h:jy M0=true) {b:Nat} {B:Blk} (hB:bn M0 b=some B):B.cells.all flat1=true:=by
 have hl:=je hB
 have hm:some B ∈ M0:=by
  unfold bn at hB
  rw [List.getElem?_eq_getElem hl] at hB
  simp only [Option.getD_some] at hB
  rw [←hB];exact List.getElem_mem hl
 exact List.all_eq_true.1 h _ hm
def glR (M0:Mem):Ren:=fun b=>(bn M0 b).map fun _=>b
theorem kq {M0:Mem} {b c:Nat} (h:glR M0 b=some c):c=b ∧ ∃ B,bn M0 b=some B:=by
 unfold glR at h
 cases hb:bn M0 b with
 | none=>simp [hb] at h
 | some B=>simp only [hb,YO,qG] at h;exact ⟨h.symm,B,rfl⟩
theorem Glo.rel {M0:Mem} {w:World} (h:Glo M0 w) (hf:jy M0=true):Rel (glR M0) M0 w:=by
 refine ⟨fun b B hB=>⟨b,B.cells,by simp [glR,hB],ee (eA _) (lF hf hB),h b B hB⟩,fun b c hc=>(kq hc).2,fun b b' c h1 h2 => ?_⟩
 rw [← (kq h1).1,← (kq h2).1]
theorem Rel.glo {M0:Mem} (hr:Rel r m w) (hg:mw M0 m=true) (hf:jy M0=true) (hgl : ∀ g,(bn M0 g).isSome=true→r g=some g):Glo M0 w:=fun b B hB=>by
 obtain ⟨c,cs,h1,h2,h3⟩:=hr.cells b B (po hg hB)
 rw [hgl b (by rw [hB];rfl)] at h1
 cases h1
 rw [ee (eA r) (lF hf hB)] at h2
 cases h2;exact h3
def Cx.glo (X:Cx) (gl:List Nat):Cx:=⟨X.C,X.pf,X.sym,X.dec,X.wf,X.W,gl,X.deci⟩
theorem Cx.glo_ok (hX:X.Ok P) {gl:List Nat} (h : ∀ g ∈ X.gl,g ∈ gl):(X.glo gl).Ok P :=
 ⟨fun f args m ps v m' hc hp r w args' hr hgl ha=>hX.wcall f args m ps v m' hc hp r w args' hr (fun g hg=>hgl g (h g hg)) ha,
  fun f args m ps v hc hp r w args' hr hgl ha=>hX.call f args m ps v hc hp r w args' hr (fun g hg=>hgl g (h g hg)) ha,hX.pure,hX.more⟩
def cQ (P:Program) (X:Cx) (n:Nat) (c:Code) (s:Act × Mem):Act × Mem :=
 match sexec P X n c [] s with
 | some (_,_,s')=>s'
 | Option.none=>s
def proj (K:Act × Mem→Act × Mem) (r:Option (List Prop × Exit × Act × Mem)):Option (List Prop × Act × Mem) :=
 match r with
 | some (ps,.normal,s)=>some (ps,K s)
 | _=>Option.none
theorem bD {K:Act × Mem→Act × Mem} {r:Option (List Prop × Exit × Act × Mem)} {ps:List Prop} {t:Act × Mem} (h:proj K r=some (ps,t)) : ∃ s,r=some (ps,.normal,s)∧K s=t:=by
 unfold proj at h
 split at h
 ·rename_i qs s
  simp only [qG,qH] at h
  obtain ⟨rfl,h2⟩:=h
  exact ⟨s,rfl,h2⟩
 ·simp at h
def Cx.var (X:Cx) (M0:Mem) (f:FuncId) (g:List Value→Option (List Prop × Value)):Cx :=
 X.read f fun args m=>if args.all flat && mw M0 m then g args else Option.none
def bk (M0:Mem) (gl:List Nat):Bool:=(List.range M0.length).all fun b=>(bn M0 b).isNone || gl.contains b
theorem me {M0:Mem} {gl:List Nat} (h:bk M0 gl=true) {g:Nat} (hg:(bn M0 g).isSome=true):g ∈ gl:=by
 obtain ⟨B,hB⟩:=Option.isSome_iff_exists.1 hg
 have:=List.all_eq_true.1 h g (List.mem_range.2 (je hB))
 rw [hB] at this
 simpa using this
theorem Cx.var_ok (hX:X.Ok P) {M0:Mem} (hf:jy M0=true) (hc:bk M0 X.gl=true) {f:FuncId} {g:List Value→Option (List Prop × Value)}
  (h : ∀ args ps v,args.all flat=true→g args=some (ps,v)→(∀ p ∈ ps,p)→(flat v=true∨v=undef) ∧ ∀ w,Glo M0 w→ix P f args.toArray w fun v' w'=>v'=v∧Below w.heap.size w w'):(X.var M0 f g).Ok P:=by
 refine Cx.read_ok hX (fun args m ps v hg hp r w args' hr hgl ha => ?_) (fun args m q i B hi hg => ?_)
 ·split at hg
  ·rename_i hall
   simp only [Bool.and_eq_true] at hall
   obtain ⟨h1,h2⟩:=h args ps v hall.1 hg hp
   have h1:tr r v=some v:=by
    rcases h1 with h1 | rfl
    ·exact cd r v h1
    ·exact dk r
   rw [ej hall.1] at ha
   cases ha
   rcases h2 w (hr.glo hall.2 hf fun g hg=>hgl g (me hc hg)) with ⟨v',w',p1,p2,p3⟩ | ⟨p1,p2⟩
   ·exact .inl ⟨v',w',p1,by rw [p2];exact h1,p3⟩
   ·refine .inr ⟨p1,p2.mono ?_⟩
    rintro e w' ⟨v',rfl,q1,q2⟩
    exact ⟨v',rfl,by rw [q1];exact h1,q2⟩
  ·simp at hg
 ·split at hg
  ·rename_i hall
   simp only [Bool.and_eq_true] at hall
   rw [if_pos (by simp only [Bool.and_eq_true];exact ⟨hall.1,qa hi hall.2⟩)];exact hg
  ·simp at hg
def sfunG (P:Program) (X:Cx) (M0:Mem) (n:Nat) (fn:Func) (c:Code) (args:List Value):Option (List Prop × Value) :=
 match sexec P X n c [] (bS fn args,M0) with
 | some (ps,.normal,s)=>if s.1.defers.isEmpty && mw M0 s.2 then (sres P fn s).map fun v=>(ps,v) else none
 | some (ps,.ret,s)=>if s.1.defers.isEmpty && mw M0 s.2 then (sres P fn s).map fun v=>(ps,v) else none
 | _=>none
theorem ki {M0:Mem} (hfl:jy M0=true) {gl:List Nat} (hgl : ∀ g ∈ gl,(bn M0 g).isSome=true) {f:FuncId} {fn:Func} {c:Code} {args:List Value} {R:Value→Prop} (hf:P.funcs[f]? = some fn) (hb:fn.body=some c)
  (h:SW P gl c (bS fn args,M0) fun e s=>(e = .normal∨e = .ret)∧s.1.defers = [] ∧ ∃ v,sres P fn s=some v∧(flat v=true∨v=undef)∧mw M0 s.2=true∧R v)
  (ha:args.all flat=true) (w:World) (hw:Glo M0 w) :
  Calls P f args.toArray w fun e w' => ∃ v,e = .returned v∧R v∧Below w.heap.size w w':=by
 refine calls_of_wp hf hb ?_
 have hr:=hw.rel hfl
 have hgl' : ∀ g ∈ gl,glR M0 g=some g:=fun g hg=>by
  obtain ⟨B,hB⟩:=Option.isSome_iff_exists.1 (hgl g hg)
  simp [glR,hB]
 have ha':trL (tr (glR M0)) args=some args:=ej ha
 have S:Sim gl (glR M0) w (bS fn args) M0 { tmps:=args.toArray ++ Array.replicate (fn.ntmps - args.toArray.size) undef,defers:=[] } w (glR M0):=by
  obtain ⟨h1,h2⟩:=yB (j9 ha' (tk (glR M0) (fn.ntmps - args.length))) (bS fn args) { tmps:=args.toArray ++ Array.replicate (fn.ntmps - args.toArray.size) undef,defers:=[] }
   (by simp [bS]) (by simp)
  exact ⟨hr,⟨Le.refl _,fun _ _ h => .inl h⟩,Fr.refl _ _,h1,h2,rfl,hgl'⟩
 refine wp_mono (h (glR M0) w _ w (glR M0) S) ?_
 rintro e A' w' ⟨s,r',⟨he,hd,v,h1,h2,h3,h4⟩,S'⟩
 obtain ⟨v',e1,e2⟩:=vT (a:=s.1) (m:=s.2) S' h1
 have hv:tr r' v=some v:=by
  rcases h2 with h2 | rfl
  ·exact cd r' v h2
  ·exact dk r'
 rw [hv] at e1
 cases e1
 have hbel:Below w.heap.size w w':=by
  refine ⟨S'.fr.os,S'.fr.tape,S'.fr.output,S'.fr.size,fun k hk => ?_⟩
  by_cases hm : ∃ b,glR M0 b=some k
  ·obtain ⟨b,hbk⟩:=hm
   obtain ⟨rfl,B,hB⟩:=kq hbk
   obtain ⟨c2,cs2,q1,q2,q3⟩:=S'.rel.cells k B (po h3 hB)
   rw [S'.ext.1 _ _ hbk] at q1;cases q1
   rw [ee (eA r') (lF hfl hB)] at q2
   cases q2
   rw [q3];exact (hw k B hB).symm
  ·exact S'.fr.block k hk (fun b e=>hm ⟨b,e⟩)
 have hdef:A'.defers = []:=S'.defers.trans hd
 rcases he with rfl | rfl
 ·exact ⟨hdef,v,e2,v,rfl,h4,hbel⟩
 ·exact ⟨hdef,v,e2,v,rfl,h4,hbel⟩
def mY (M0:Mem) (gl:List Nat):Bool:=gl.all fun g=>(bn M0 g).isSome
theorem aH (hX:X.Ok P) (hm:P.follows .mixedOrders=true) {M0:Mem} (hfl:jy M0=true) (hin:mY M0 X.gl=true) {n:Nat} {f:FuncId} {fn:Func} {c:Code} (hf:P.funcs[f]? = some fn) (hb:fn.body=some c) {args:List Value} {ps:List Prop} {v:Value} (h:sfunG P X M0 n fn c args=some (ps,v)) (hp : ∀ p ∈ ps,p) (ha:args.all flat=true) (hv:flat v=true∨v=undef) (w:World) (hw:Glo M0 w) :
  Calls P f args.toArray w fun e w'=>e = .returned v∧Below w.heap.size w w':=by
 have hin' : ∀ g ∈ X.gl,(bn M0 g).isSome=true:=fun g hg=>List.all_eq_true.1 hin g hg
 have key : ∀ e s,(e = .normal∨e = .ret)→sexec P X n c [] (bS fn args,M0)=some (ps,e,s)→(s.1.defers.isEmpty && mw M0 s.2)=true→sres P fn s=some v→Calls P f args.toArray w fun e w'=>e = .returned v∧Below w.heap.size w w':=by
  intro e s he hs hd hr
  simp only [Bool.and_eq_true] at hd
  refine (ki (R:=fun u=>u=v) (args:=args) hfl hin' hf hb (SW.run hX hm n hs hp ?_) ha w hw).mono ?_
  ·exact ⟨he,by simpa using hd.1,v,hr,hv,hd.2,rfl⟩
  ·rintro e' w' ⟨u,rfl,rfl,hb⟩
   exact ⟨rfl,hb⟩
 unfold sfunG at h
 split at h
 ·rename_i s hs
  split at h
  ·rename_i hd
   cases hr:sres P fn s with
   | none=>simp [hr] at h
   | some u =>
    simp only [hr,YO,qG,qH] at h
    obtain ⟨rfl,rfl⟩:=h
    exact key _ s (.inl rfl) hs hd hr
  ·simp at h
 ·rename_i s hs
  split at h
  ·rename_i hd
   cases hr:sres P fn s with
   | none=>simp [hr] at h
   | some u =>
    simp only [hr,YO,qG,qH] at h
    obtain ⟨rfl,rfl⟩:=h
    exact key _ s (.inr rfl) hs hd hr
  ·simp at h
 ·simp at h
theorem bO (hX : X.Ok Tryz.prog) {M0 : Mem} (hfl : jy M0 = true) (hc : bk M0 X.gl = true) {f : FuncId} {fn : Func} {g : List Value → Option (List Prop × Value)} (hf : Tryz.prog.funcs[f]? = some fn) (hname : (fn.name == "runtime.NumGoroutine") = false) (hb : fn.body = some (ag fn))
  (h : ∀ args ps v,args.all flat=true→g args=some (ps,v)→(∀ p ∈ ps,p)→(flat v=true∨v=undef) ∧ ∀ w,Glo M0 w→Calls Tryz.prog f args.toArray w fun e w'=>e = .returned v∧Below w.heap.size w w'):(X.var M0 f g).Ok Tryz.prog :=
 Cx.var_ok hX hfl hc fun args ps v ha hg hp=>⟨(h args ps v ha hg hp).1,fun w hw=>fk hf hname hb (((h args ps v ha hg hp).2 w hw).mono (by rintro e w' ⟨rfl,hb⟩;exact ⟨_,rfl,rfl,hb⟩))⟩
end Go.Proofs.YtajehiidpecknaaGreatDoor
namespace Go.Proofs.YtajehiidpecknaaGreatDoor
open Go Go.RowKit
variable {gl:List Nat} {r:Ren} {w:World} {m:Mem} {P:Program} {X:Cx}
def sexecL (P:Program) (X:Cx) (n:Nat):List Code→List Prop→Act × Mem→Option (List Prop × Act × Mem)
 | [],qs,s=>some (qs,s)
 | c :: cs,qs,s=>match sexec P X n c qs s with
  | some (qs',.normal,s')=>sexecL P X n cs qs' s'
  | _=>none
def A9:List Code→Code→Code
 | [],c=>c
 | a :: cs,c => .seq a (A9 cs c)
def Nu (P:Program) (X:Cx) (n:Nat) (cs:List Code) (s:Act × Mem):Act × Mem :=
 match sexecL P X n cs [] s with
 | some (_,s')=>s'
 | Option.none=>s
theorem pR {n:Nat} : ∀ (cs:List Code) (qs:List Prop) (s:Act × Mem) (rs:List Prop) (s':Act × Mem),sexecL P X n cs qs s=some (rs,s') → ∀ p ∈ qs,p ∈ rs
 | [],qs,s,rs,s',h,p,hp=>by simp only [sexecL,qG,qH] at h;rw [←h.1];exact hp
 | c :: cs,qs,s,rs,s',h,p,hp=>by
  simp only [sexecL] at h
  split at h
  ·rename_i h1
   exact pR cs _ _ _ _ h p (oo _ _ _ _ _ _ _ h1 p hp)
  ·simp at h
theorem kz (hX:X.Ok P) (hm:P.follows .mixedOrders=true) {n:Nat} {rest:Code} {Q:Exit→Act × Mem→Prop} {rs:List Prop} (hrs : ∀ p ∈ rs,p) : ∀ (cs:List Code) (qs:List Prop) (s s':Act × Mem),sexecL P X n cs qs s=some (rs,s')→SW P X.gl rest s' Q→SW P X.gl (A9 cs rest) s Q
 | [],qs,s,s',h,hq=>by simp only [sexecL,qG,qH] at h;rw [h.2];exact hq
 | c :: cs,qs,s,s',h,hq=>by
  simp only [sexecL] at h
  split at h
  ·rename_i q1 s1 h1
   refine SW.seq ((l5 hX hm hrs n c qs _ s _ _ h1 (pR cs _ _ _ _ h)).mono ?_)
   rintro e s2 ⟨rfl,rfl⟩
   exact kz hX hm hrs cs _ _ _ h hq
  ·simp at h
theorem SW.pre (hX:X.Ok P) (hm:P.follows .mixedOrders=true) {n:Nat} {c rest:Code} {cs:List Code} {s s':Act × Mem} {ps:List Prop} {Q:Exit→Act × Mem→Prop} (hc:c=A9 cs rest) (h:sexecL P X n cs [] s=some (ps,s')) (hp : ∀ p ∈ ps,p) (hq:SW P X.gl rest s' Q):SW P X.gl c s Q:=by
 rw [hc];exact kz hX hm hp cs [] s s' h hq
theorem SW.loopK {c b:Code} {s:Act × Mem} {Q:Exit→Act × Mem→Prop} (hc:c = .loop b) (l:List Nat) (hd:Nat→Act × Mem) (k0 n:Nat) (h0:(forgetL s.1 l,s.2)=hd k0) (hk:k0≤n)
  (round : ∀ k,k0≤k→k<n→SW P gl b (hd k) (thenS (fun s'=>(forgetL s'.1 l,s'.2)=hd (k+1)) Q))
  (last:SW P gl b (hd n) (thenS (fun _=>False) Q)):SW P gl c s Q:=by
 rw [hc]
 refine SW.loop (fun j s => ∃ k,k0≤k∧k≤n∧j=n - k∧(forgetL s.1 l,s.2)=hd k) (n - k0) ⟨k0,Nat.le_refl _,hk,rfl,h0⟩ ?_
 rintro j ⟨a,m⟩ ⟨k,h1,h2,rfl,h3⟩
 refine SW.forget l ?_
 simp only at h3
 rw [h3]
 rcases Nat.lt_or_ge k n with h | h
 ·refine (round k h1 h).mono ?_
  rintro (_ | _ | _ | _) s' hs
  ·exact ⟨n - (k+1),by omega,k+1,by omega,by omega,rfl,hs⟩
  all_goals exact hs
 ·have:k=n:=by omega
  subst this
  refine last.mono ?_
  rintro (_ | _ | _ | _) s' hs
  ·exact hs.elim
  all_goals exact hs
theorem vI {id:Nat} {Q:Exit→Act × Mem→Prop} {s:Act × Mem} (h:Q .normal s):blockS id Q (.exit id) s:=by simp only [blockS,if_true];exact h
theorem pn {N:Act × Mem→Prop} {Q:Exit→Act × Mem→Prop} {s:Act × Mem} (h:N s):thenS N Q .normal s:=h
theorem v8 {N:Act × Mem→Prop} {Q:Exit→Act × Mem→Prop} {s:Act × Mem} {id:Nat} (h:Q (.exit id) s):thenS N Q (.exit id) s:=h
theorem SW.runG (hX:X.Ok P) (hm:P.follows .mixedOrders=true) (hg:X.gl=gl) {c:Code} {s s':Act × Mem} {e:Exit} {ps:List Prop} {Q:Exit→Act × Mem→Prop} (n:Nat) (h:sexec P X n c [] s=some (ps,e,s')) (hp : ∀ p ∈ ps,p) (hq:Q e s'):SW P gl c s Q:=by
 rw [←hg];exact SW.run hX hm n h hp hq
theorem SW.preG (hX:X.Ok P) (hm:P.follows .mixedOrders=true) (hg:X.gl=gl) {n:Nat} {c rest:Code} {cs:List Code} {s s':Act × Mem} {ps:List Prop} {Q:Exit→Act × Mem→Prop} (hc:c=A9 cs rest) (h:sexecL P X n cs [] s=some (ps,s')) (hp : ∀ p ∈ ps,p) (hq:SW P gl rest s' Q):SW P gl c s Q:=by
 subst hg;exact SW.pre hX hm hc h hp hq
end Go.Proofs.YtajehiidpecknaaGreatDoor
