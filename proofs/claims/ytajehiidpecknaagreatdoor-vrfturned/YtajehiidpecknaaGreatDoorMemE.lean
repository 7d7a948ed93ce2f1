import Derived.Test.YtajehiidpecknaaGreatDoorMemD
set_option linter.all false
namespace Go.Proofs.YtajehiidpecknaaGreatDoor
open Go Go.RowKit
variable {gl:List Nat} {r₀ r:Ren} {w₀ w:World} {a A:Act} {m:Mem} {P:Program} {X:Cx}
def SW (P:Program) (gl:List Nat) (c:Code) (s:Act × Mem) (Q:Exit→Act × Mem→Prop):Prop :=
 ∀ r₀ w₀ A w r,Sim gl r₀ w₀ s.1 s.2 A w r→c.wp P (fun e A' w' => ∃ s' r',Q e s'∧Sim gl r₀ w₀ s'.1 s'.2 A' w' r') A w
def thenS (N:Act × Mem→Prop) (Q:Exit→Act × Mem→Prop):Exit→Act × Mem→Prop
 | .normal,s=>N s
 | e,s=>Q e s
def blockS (id:Nat) (Q:Exit→Act × Mem→Prop):Exit→Act × Mem→Prop
 | .exit k,s=>if k=id then Q .normal s else Q (.exit k) s
 | e,s=>Q e s
theorem SW.mono {c:Code} {s:Act × Mem} {Q Q':Exit→Act × Mem→Prop} (h:SW P gl c s Q) (hq : ∀ e s,Q e s→Q' e s):SW P gl c s Q' :=
 fun r₀ w₀ A w r S=>wp_mono (h r₀ w₀ A w r S) fun e A' w' ⟨s',r',h1,h2⟩=>⟨s',r',hq _ _ h1,h2⟩
theorem SW.skip {s:Act × Mem} {Q:Exit→Act × Mem→Prop} (h:Q .normal s):SW P gl .skip s Q:=fun _ _ _ _ r S=>wp_skip ⟨s,r,h,S⟩
theorem SW.label {l:Nat} {s:Act × Mem} {Q:Exit→Act × Mem→Prop} (h:Q .normal s):SW P gl (.label l) s Q:=fun _ _ _ _ r S=>wp_label ⟨s,r,h,S⟩
theorem SW.exit {id:Nat} {s:Act × Mem} {Q:Exit→Act × Mem→Prop} (h:Q (.exit id) s):SW P gl (.exit id) s Q:=fun _ _ _ _ r S=>wp_exit ⟨s,r,h,S⟩
theorem SW.ret {s:Act × Mem} {Q:Exit→Act × Mem→Prop} (h:Q .ret s):SW P gl .ret s Q:=fun _ _ _ _ r S=>wp_ret ⟨s,r,h,S⟩
theorem SW.seq {x y:Code} {s:Act × Mem} {Q:Exit→Act × Mem→Prop} (h:SW P gl x s (thenS (fun s'=>SW P gl y s' Q) Q)):SW P gl (.seq x y) s Q:=by
 intro r₀ w₀ A w r S
 refine wp_seq (wp_mono (h r₀ w₀ A w r S) ?_)
 rintro e A' w' ⟨s',r',h1,h2⟩
 cases e with
 | normal=>exact h1 r₀ w₀ A' w' r' h2
 | _=>exact ⟨s',r',h1,h2⟩
theorem SW.cond {c:Operand} {x y:Code} {s:Act × Mem} {Q:Exit→Act × Mem→Prop} {t:Bool} (hok:okX gl s.1.eval c=true) (hc:s.1.eval c = .bool t) (h:SW P gl (if t then x else y) s Q):SW P gl (.cond c x y) s Q:=by
 intro r₀ w₀ A w r S
 have h1:=S.eval hok
 rw [hc] at h1
 have h2:A.eval c = .bool t:=by simp [tr,tr2,tr1,flat1] at h1;exact h1.symm
 exact wp_cond h2 (h r₀ w₀ A w r S)
theorem SW.block {id:Nat} {c:Code} {s:Act × Mem} {Q:Exit→Act × Mem→Prop} (h:SW P gl c s (blockS id Q)):SW P gl (.block id c) s Q:=by
 intro r₀ w₀ A w r S
 refine wp_block (wp_mono (h r₀ w₀ A w r S) ?_)
 rintro e A' w' ⟨s',r',h1,h2⟩
 cases e with
 | exit k =>
  simp only [blockS] at h1
  simp only [Exit.inBlock]
  split at h1
  ·rename_i hk;rw [if_pos hk];exact ⟨s',r',h1,h2⟩
  ·rename_i hk;rw [if_neg hk];exact ⟨s',r',h1,h2⟩
 | _=>exact ⟨s',r',h1,h2⟩
theorem least {p:Nat→Prop} : ∀ n,p n → ∃ k,p k∧k≤n ∧ ∀ j,p j→k≤j:=by
 intro n
 induction n using Nat.strongRecOn with
 | _ n ih =>
  intro hn
  by_cases h : ∃ j,j<n∧p j
  ·obtain ⟨j,hj,hp⟩:=h
   obtain ⟨k,h1,h2,h3⟩:=ih j hj hp
   exact ⟨k,h1,by omega,h3⟩
  ·exact ⟨n,hn,Nat.le_refl _,fun j hj=>by
    rcases Nat.lt_or_ge j n with h1 | h1
    ·exact absurd ⟨j,h1,hj⟩ h
    ·exact h1⟩
open Classical in
theorem SW.loop {c:Code} {s:Act × Mem} {Q:Exit→Act × Mem→Prop} (I:Nat→Act × Mem→Prop) (n:Nat) (h0:I n s)
  (round : ∀ n s,I n s→SW P gl c s (thenS (fun s' => ∃ k,k<n∧I k s') Q)):SW P gl (.loop c) s Q:=by
 intro r₀ w₀ A w r S
 let p (A:Act) (w:World) (n:Nat):Prop := ∃ s r,I n s∧Sim gl r₀ w₀ s.1 s.2 A w r
 let mu (A:Act) (w:World):Nat:=if h : ∃ n,p A w n then Classical.choose (least (p:=p A w) (Classical.choose h) (Classical.choose_spec h)) else 0
 have hmu : ∀ A w n,p A w n→p A w (mu A w)∧mu A w≤n:=by
  intro A w n hn
  have h : ∃ n,p A w n:=⟨n,hn⟩
  have:=Classical.choose_spec (least (p:=p A w) (Classical.choose h) (Classical.choose_spec h))
  have e:mu A w=Classical.choose (least (p:=p A w) (Classical.choose h) (Classical.choose_spec h)):=dif_pos h
  rw [e]
  exact ⟨this.1,this.2.2 n hn⟩
 refine wp_loop (fun A w => ∃ n,p A w n) mu ⟨n,s,r,h0,S⟩ ?_
 rintro A w ⟨n,hn⟩
 obtain ⟨⟨s,r,hI,S⟩,_⟩:=hmu A w n hn
 refine wp_mono (round _ s hI r₀ w₀ A w r S) ?_
 rintro e A' w' ⟨s',r',h1,h2⟩
 cases e with
 | normal =>
  obtain ⟨k,hk,hI'⟩:=h1
  have:=(hmu A' w' k ⟨s',r',hI',h2⟩).2
  exact ⟨⟨k,s',r',hI',h2⟩,by omega⟩
 | _=>exact ⟨s',r',h1,h2⟩
theorem SW.region (hX:X.Ok P) (hm:P.follows .mixedOrders=true) {id:Nat} {ops:Array Oper} {draw:Bool} {rs:List Prop} {s out:Act × Mem} {Q:Exit→Act × Mem→Prop} (h:mJ P X ops draw s=some (rs,out)) (hrs : ∀ p ∈ rs,p) (hq:Q .normal out):SW P X.gl (.region id ops draw) s Q :=
 fun _ _ _ _ _ S=>Ag hX.f hm h hrs S fun A w r S'=>⟨out,r,hq,S'⟩
def sexec (P:Program) (X:Cx):Nat→Code→List Prop→Act × Mem→Option (List Prop × Exit × Act × Mem)
 | 0,_,_,_=>none
 | n+1,c,qs,s=>match c with
  | .skip=>some (qs,.normal,s)
  | .label _=>some (qs,.normal,s)
  | .region _ ops d=>match mJ P X ops d s with
   | some (ps,s')=>some (qs ++ ps,.normal,s')
   | none=>none
  | .seq a b=>match sexec P X n a qs s with
   | some (qs',.normal,s')=>sexec P X n b qs' s'
   | r=>r
  | .cond c a b=>if okX X.gl s.1.eval c then
    match s.1.eval c with
    | .bool true=>sexec P X n a qs s
    | .bool false=>sexec P X n b qs s
    | _=>none
   else none
  | .block id b=>match sexec P X n b qs s with
   | some (qs',.exit k,s')=>if k=id then some (qs',.normal,s') else some (qs',.exit k,s')
   | r=>r
  | .loop b=>match sexec P X n b qs s with
   | some (qs',.normal,s')=>sexec P X n (.loop b) qs' s'
   | r=>r
  | .exit id=>some (qs,.exit id,s)
  | .ret=>some (qs,.ret,s)
  | _=>none
theorem oo : ∀ (n:Nat) (c:Code) (qs:List Prop) (s:Act × Mem) (rs:List Prop) (e:Exit) (s':Act × Mem),sexec P X n c qs s=some (rs,e,s') → ∀ p ∈ qs,p ∈ rs:=by
 intro n
 induction n with
 | zero=>intro c qs s rs e s' h;simp [sexec] at h
 | succ n ih =>
  intro c qs s rs e s' h p hp
  unfold sexec at h
  split at h
  ·simp only [qG,qH] at h;rw [←h.1];exact hp
  ·simp only [qG,qH] at h;rw [←h.1];exact hp
  ·split at h
   ·simp only [qG,qH] at h;rw [←h.1];simp [hp]
   ·simp at h
  ·split at h
   ·rename_i h1;exact ih _ _ _ _ _ _ h p (ih _ _ _ _ _ _ h1 p hp)
   ·exact ih _ _ _ _ _ _ h p hp
  ·split at h
   ·split at h
    ·exact ih _ _ _ _ _ _ h p hp
    ·exact ih _ _ _ _ _ _ h p hp
    ·simp at h
   ·simp at h
  ·split at h
   ·rename_i h1
    have:=ih _ _ _ _ _ _ h1 p hp
    split at h
    ·simp only [qG,qH] at h;rw [←h.1];exact this
    ·simp only [qG,qH] at h;rw [←h.1];exact this
   ·exact ih _ _ _ _ _ _ h p hp
  ·split at h
   ·rename_i h1;exact ih _ _ _ _ _ _ h p (ih _ _ _ _ _ _ h1 p hp)
   ·exact ih _ _ _ _ _ _ h p hp
  ·simp only [qG,qH] at h;rw [←h.1];exact hp
  ·simp only [qG,qH] at h;rw [←h.1];exact hp
  ·simp at h
theorem l5 (hX:X.Ok P) (hm:P.follows .mixedOrders=true) {rs:List Prop} (hrs : ∀ p ∈ rs,p) : ∀ (n:Nat) (c:Code) (qs ts:List Prop) (s:Act × Mem) (e:Exit) (s':Act × Mem),sexec P X n c qs s=some (ts,e,s')→(∀ p ∈ ts,p ∈ rs)→SW P X.gl c s (fun e' s''=>e'=e∧s''=s'):=by
 intro n
 induction n using Nat.strongRecOn with
 | _ n ih =>
  intro c qs ts s e s' h hts
  cases n with
  | zero=>simp [sexec] at h
  | succ n =>
   unfold sexec at h
   split at h
   ·simp only [qG,qH] at h;obtain ⟨_,rfl,rfl⟩:=h;exact SW.skip ⟨rfl,rfl⟩
   ·simp only [qG,qH] at h;obtain ⟨_,rfl,rfl⟩:=h;exact SW.label ⟨rfl,rfl⟩
   ·split at h
    ·rename_i hr
     simp only [qG,qH] at h;obtain ⟨rfl,rfl,rfl⟩:=h;exact SW.region hX hm hr (fun p hp=>hrs p (hts p (by simp [hp]))) ⟨rfl,rfl⟩
    ·simp at h
   ·split at h
    ·rename_i q1 s1 h1
     refine SW.seq ((ih n (by omega) _ _ _ s _ _ h1 (fun p hp=>hts p (oo _ _ _ _ _ _ _ h p hp))).mono ?_)
     rintro e1 s2 ⟨rfl,rfl⟩
     exact ih n (by omega) _ _ _ _ _ _ h hts
    ·rename_i hn
     refine SW.seq ((ih n (by omega) _ _ _ s _ _ h hts).mono ?_)
     rintro e1 s2 ⟨rfl,rfl⟩
     cases e1 with
     | normal=>exact absurd h (hn _ _)
     | _=>exact ⟨rfl,rfl⟩
   ·split at h
    ·rename_i hok
     split at h
     ·rename_i he;exact SW.cond hok he (ih n (by omega) _ _ _ s _ _ h hts)
     ·rename_i he;exact SW.cond hok he (ih n (by omega) _ _ _ s _ _ h hts)
     ·simp at h
    ·simp at h
   ·split at h
    ·rename_i q1 k s1 h1
     have hq1 : ∀ p ∈ q1,p ∈ rs:=by
      intro p hp
      split at h
      ·simp only [qG,qH] at h;exact hts p (by rw [←h.1];exact hp)
      ·simp only [qG,qH] at h;exact hts p (by rw [←h.1];exact hp)
     refine SW.block ((ih n (by omega) _ _ _ s _ _ h1 hq1).mono ?_)
     rintro e1 s2 ⟨rfl,rfl⟩
     simp only [blockS]
     split at h
     ·rename_i hk;rw [if_pos hk];simp only [qG,qH] at h;exact ⟨h.2.1,h.2.2⟩
     ·rename_i hk;rw [if_neg hk];simp only [qG,qH] at h;exact ⟨h.2.1,h.2.2⟩
    ·rename_i hn
     refine SW.block ((ih n (by omega) _ _ _ s _ _ h hts).mono ?_)
     rintro e1 s2 ⟨rfl,rfl⟩
     cases e1 with
     | exit k=>exact absurd h (hn _ _ _)
     | _=>exact ⟨rfl,rfl⟩
   ·rename_i b
    have h':sexec P X (n+1) (.loop b) qs s=some (ts,e,s'):=by unfold sexec;exact h
    refine SW.loop (fun k s=>k≤n+1 ∧ ∃ qs,sexec P X k (.loop b) qs s=some (ts,e,s')) (n+1) ⟨Nat.le_refl _,qs,h'⟩ ?_
    rintro k s ⟨hk,qs,hs⟩
    cases k with
    | zero=>simp [sexec] at hs
    | succ k =>
     unfold sexec at hs
     simp only at hs
     split at hs
     ·rename_i q1 s1 h1
      refine (ih k (by omega) _ _ _ s _ _ h1 (fun p hp=>hts p (oo _ _ _ _ _ _ _ hs p hp))).mono ?_
      rintro e1 s2 ⟨rfl,rfl⟩
      exact ⟨k,by omega,by omega,_,hs⟩
     ·rename_i hn
      refine (ih k (by omega) _ _ _ s _ _ hs hts).mono ?_
      rintro e1 s2 ⟨rfl,rfl⟩
      cases e1 with
      | normal=>exact absurd hs (hn _ _)
      | _=>exact ⟨rfl,rfl⟩
   ·simp only [qG,qH] at h;obtain ⟨_,rfl,rfl⟩:=h;exact SW.exit ⟨rfl,rfl⟩
   ·simp only [qG,qH] at h;obtain ⟨_,rfl,rfl⟩:=h;exact SW.ret ⟨rfl,rfl⟩
   ·simp at h
theorem SW.run (hX:X.Ok P) (hm:P.follows .mixedOrders=true) {c:Code} {s s':Act × Mem} {e:Exit} {ps:List Prop} {Q:Exit→Act × Mem→Prop} (n:Nat) (h:sexec P X n c [] s=some (ps,e,s')) (hp : ∀ p ∈ ps,p) (hq:Q e s'):SW P X.gl c s Q :=
 (l5 hX hm hp n c [] ps s e s' h (fun _ h=>h)).mono (by rintro e1 s1 ⟨rfl,rfl⟩;exact hq)
def sres1 (P:Program) (s:Act × Mem):ResultVar→Option Value
 | .tmp t=>if good (s.1.eval (.tmp t)) then some (s.1.eval (.tmp t)) else none
 | .cell x t=>match s.1.eval (.tmp x) with
  | .pointer (some ⟨b,o,none⟩)=>sload P t b o s.2
  | _=>none
def sresL (P:Program) (s:Act × Mem):List ResultVar→Option (List Value)
 | []=>some []
 | x :: l=>match sres1 P s x,sresL P s l with
  | some v,some vs=>some (v :: vs)
  | _,_=>none
def sres (P:Program) (fn:Func) (s:Act × Mem):Option Value :=
 match sresL P s fn.results.toList with
 | some [v]=>some v
 | some vs=>if vs.all notTup then some (.tuple vs.toArray) else none
 | none=>none
def rv1 (T:Array Value):ResultVar→Sem Value
 | .tmp t=>pure (T.getD t undef)
 | .cell y t=>do loadVar t (←asAddr (T.getD y undef))
theorem yi (fn:Func) (T:Array Value):results fn T=(do
  let vs ←fn.results.mapM (rv1 T)
  pure (if h:vs.size=1 then vs[0] else .tuple vs)):=by
 unfold results
 have:(fun x=>(match x with
  | .tmp t=>pure (T.getD t undef)
  | .cell a t=>do loadVar t (←asAddr (T.getD a undef)):Sem Value))=rv1 T:=by
  funext x;cases x <;> rfl
 exact congrArg (fun g=>(do
  let vs ←fn.results.mapM g
  pure (if h:vs.size=1 then vs[0] else .tuple vs):Sem Value)) this
theorem AP (S:Sim gl r₀ w₀ a m A w r) {x:ResultVar} {v:Value} (h:sres1 P (a,m) x=some v) :
  ∃ v',tr r v=some v'∧(rv1 A.tmps x).run P w = .ok v' w:=by
 cases x with
 | tmp t =>
  simp only [sres1] at h
  split at h
  ·rename_i hg
   simp only [qG] at h;subst h
   exact ⟨_,S.eval (x := .tmp t) hg,rfl⟩
  ·simp at h
 | cell y t =>
  simp only [sres1] at h
  split at h
  ·rename_i b o he
   have h1:=S.eval (x := .tmp y) (by show good (a.eval (.tmp y))=true;rw [he];rfl)
   rw [he] at h1
   obtain ⟨c,hb,e⟩:=jK h1
   obtain ⟨v',h2,h3⟩:=uD S.rel hb h
   refine ⟨v',h2,?_⟩
   have e':A.tmps.getD y undef = .pointer (some ⟨c,o,none⟩):=e
   simp only [rv1,e',asAddr,Sem.run_bind,Sem.run_pure,Result.andThen_ok,h3]
  ·simp at h
theorem qc (S:Sim gl r₀ w₀ a m A w r) : ∀ {xs:List ResultVar} {vs:List Value},sresL P (a,m) xs=some vs →
  ∃ vs',trL (tr r) vs=some vs'∧(xs.mapM (rv1 A.tmps)).run P w = .ok vs' w
 | [],vs,h=>by simp only [sresL,qG] at h;subst h;exact ⟨[],rfl,rfl⟩
 | x :: xs,vs,h=>by
  simp only [sresL] at h
  split at h
  ·rename_i v vs1 h1 h2
   simp only [qG] at h;subst h
   obtain ⟨v',e1,e2⟩:=AP S h1
   obtain ⟨vs',e3,e4⟩:=qc S h2
   refine ⟨v' :: vs',cO e1 e3,?_⟩
   simp only [List.mapM_cons,Sem.run_bind,e2,Result.andThen_ok,e4,Sem.run_pure]
  ·simp at h
theorem zI : ∀ {vs vs':List Value},vs.all notTup=true→trL (tr r) vs=some vs'→trL (tr2 r) vs=some vs'
 | [],_,_,h=>h
 | v :: vs,vs',hn,h=>by
  simp only [List.all_cons,Bool.and_eq_true] at hn
  obtain ⟨v',r',h1,h2,rfl⟩:=bZ h
  exact cO (wY hn.1 h1) (zI hn.2 h2)
theorem vT (S:Sim gl r₀ w₀ a m A w r) {fn:Func} {v:Value} (h:sres P fn (a,m)=some v) : ∃ v',tr r v=some v'∧(results fn A.tmps).run P w = .ok v' w:=by
 unfold sres at h
 cases hl:sresL P (a,m) fn.results.toList with
 | none=>simp [hl] at h
 | some vs =>
  obtain ⟨vs',h1,h2⟩:=qc S hl
  have hrun:(fn.results.mapM (rv1 A.tmps)).run P w = .ok vs'.toArray w:=by
   rw [Array.mapM_eq_mapM_toList]
   simp only [Sem.run_map,h2,Result.andThen_ok]
  rw [hl] at h
  have hlen:=eQ h1
  rw [yi,Sem.run_bind,hrun]
  simp only [Result.andThen_ok,Sem.run_pure,List.size_toArray]
  split at h
  ·rename_i u he
   simp only [qG] at h he;subst h;subst he
   obtain ⟨u',q,e1,e2,rfl⟩:=bZ h1
   simp only [trL,qG] at e2;subst e2
   exact ⟨u',e1,rfl⟩
  ·rename_i us hne he
   simp only [qG] at he;subst he
   split at h
   ·rename_i hall
    simp only [qG] at h;subst h
    refine ⟨.tuple vs'.toArray,?_,?_⟩
    ·have hl1 : ¬ vs.length=1:=by
      intro e
      obtain ⟨u,hu⟩:=List.length_eq_one_iff.1 e
      exact hne u (by rw [hu])
     simp [tr,zI hall h1,hl1]
    ·have : ¬ vs'.length=1:=by
      intro e
      rw [hlen] at e
      obtain ⟨u,hu⟩:=List.length_eq_one_iff.1 e
      exact hne u (by rw [hu])
     simp [this]
   ·simp at h
  ·simp at h
def bS (fn:Func) (args:List Value):Act := { tmps:=args.toArray ++ Array.replicate (fn.ntmps - args.length) undef,defers:=[] }
theorem tk (r:Ren) : ∀ n,trL (tr r) (List.replicate n undef)=some (List.replicate n undef)
 | 0=>rfl
 | n+1=>cO (dk r) (tk r n)
theorem yB {l l':List Value} (h:trL (tr r) l=some l') (a A:Act) (ha:a.tmps=l.toArray) (hA:A.tmps=l'.toArray):A.tmps.size=a.tmps.size ∧ ∀ t,a.eval (.tmp t)=cT∨tr r (a.eval (.tmp t))=some (A.eval (.tmp t)):=by
 have hl:=eQ h
 refine ⟨by rw [ha,hA];simp [hl],fun t => .inr ?_⟩
 simp only [Act.eval,Array.getD_eq_getD_getElem?,ha,hA,List.getElem?_toArray]
 cases ht:l[t]? with
 | none =>
  have:l'[t]? = none:=by rw [List.getElem?_eq_none_iff] at ht ⊢;omega
  rw [this];exact dk r
 | some v =>
  obtain ⟨v',h1,h2⟩:=tj h ht
  rw [h2];exact h1
theorem cD {f:FuncId} {fn:Func} {c:Code} {args:List Value} {m:Mem} {R:Value→Prop} (hf:P.funcs[f]? = some fn) (hb:fn.body=some c)
  (h:SW P gl c (bS fn args,m) fun e s=>(e = .normal∨e = .ret)∧s.1.defers = [] ∧ ∃ v x,sres P fn s=some v∧(flat v=true∨v=undef)∧s.2=m ++ x∧R v)
  {r:Ren} {w:World} {args':List Value} (hr:Rel r m w) (hgl : ∀ g ∈ gl,r g=some g) (ha:trL (tr r) args=some args') :
  Calls P f args'.toArray w fun e w' => ∃ v,e = .returned v∧R v∧Below w.heap.size w w':=by
 refine calls_of_wp hf hb ?_
 have S:Sim gl r w (bS fn args) m { tmps:=args'.toArray ++ Array.replicate (fn.ntmps - args'.toArray.size) undef,defers:=[] } w r:=by
  have hl:=eQ ha
  obtain ⟨h1,h2⟩:=yB (j9 ha (tk r (fn.ntmps - args.length))) (bS fn args) { tmps:=args'.toArray ++ Array.replicate (fn.ntmps - args'.toArray.size) undef,defers:=[] }
   (by simp [bS]) (by simp [hl])
  exact ⟨hr,⟨Le.refl _,fun _ _ h => .inl h⟩,Fr.refl _ _,h1,h2,rfl,hgl⟩
 refine wp_mono (h r w _ w r S) ?_
 rintro e A' w' ⟨s,r',⟨he,hd,v,x,h1,h2,h3,h4⟩,S'⟩
 obtain ⟨v',e1,e2⟩:=vT (a:=s.1) (m:=s.2) S' h1
 have hv:tr r' v=some v:=by
  rcases h2 with h2 | rfl
  ·exact cd r' v h2
  ·exact dk r'
 rw [hv] at e1
 cases e1
 have hbel:Below w.heap.size w w':=by
  refine ⟨S'.fr.os,S'.fr.tape,S'.fr.output,S'.fr.size,fun k hk => ?_⟩
  by_cases hm : ∃ b,r b=some k
  ·obtain ⟨b,hbk⟩:=hm
   obtain ⟨B,hB⟩:=hr.full b k hbk
   obtain ⟨c1,cs1,p1,p2,p3⟩:=hr.cells b B hB
   rw [hbk] at p1;cases p1
   have hB':bn s.2 b=some B:=by
    rw [h3];unfold bn at hB ⊢
    rw [List.getElem?_append_left (je hB)];exact hB
   obtain ⟨c2,cs2,q1,q2,q3⟩:=S'.rel.cells b B hB'
   rw [S'.ext.1 _ _ hbk] at q1;cases q1
   rw [gB (gd S'.ext.1) p2] at q2
   cases q2
   rw [q3,p3]
  ·exact S'.fr.block k hk (fun b e=>hm ⟨b,e⟩)
 have hdef:A'.defers = []:=S'.defers.trans hd
 rcases he with rfl | rfl
 ·exact ⟨hdef,v,e2,v,rfl,h4,hbel⟩
 ·exact ⟨hdef,v,e2,v,rfl,h4,hbel⟩
theorem SW.forget {c:Code} {a:Act} {m:Mem} {Q:Exit→Act × Mem→Prop} (l:List Nat) (h:SW P gl c (forgetL a l,m) Q):SW P gl c (a,m) Q :=
 fun r₀ w₀ A w r S=>h r₀ w₀ A w r (Sim.forgetL l S)
theorem Rel.nil (w:World):Rel (fun _=>none) [] w:=⟨fun b B h=>(by simp [bn] at h),fun b c h=>(by cases h),fun b b' c h=>(by cases h)⟩
theorem Rel.one {r:Ren} {m:Mem} {w:World} (h:Rel r m w) {b c:Nat} {B:Blk} (hB:bn m b=some B) (hc:r b=some c) {cs:List Value} (hcs:trL (tr1 r) B.cells=some cs) (hfl:B.cells.all flat1=true):Rel (fun k=>if k=0 then some c else none) [some B] w:=by
 refine ⟨fun k B' hB' => ?_,fun k c' hc' => ?_,fun k k' c' h1 h2 => ?_⟩
 ·have hk:k=0:=by
   have:=je hB'
   simp at this;exact this
  subst hk
  simp [bn] at hB'
  subst hB'
  obtain ⟨c2,cs2,p1,p2,p3⟩:=h.cells b B hB
  rw [hc] at p1;cases p1
  refine ⟨c,B.cells,rfl,ee (eA _) hfl,?_⟩
  rw [ee (eA r) hfl] at p2
  cases p2;exact p3
 ·split at hc'
  ·rename_i e;subst e;exact ⟨B,rfl⟩
  ·cases hc'
 ·split at h1
  ·split at h2
   ·rename_i e1 e2;rw [e1,e2]
   ·cases h2
  ·cases h1
def Cx.pure (X:Cx) (f:FuncId) (g:List Value→Option (List Prop × Value)):Cx :=
 ⟨fun k args m=>if k=f then (if args.all flat then g args else none) else X.C k args m,fun k=>k == f || X.pf k,X.sym,X.dec,fun k => !(k == f) && X.wf k,X.W,X.gl,X.deci⟩
theorem ej {args:List Value} (h:args.all flat=true):trL (tr r) args=some args:=ee (cd r) h
theorem Cx.pure_ok (hX:X.Ok P) {f:FuncId} {g:List Value→Option (List Prop × Value)}
  (h : ∀ args ps v,args.all flat=true→g args=some (ps,v)→(∀ p ∈ ps,p)→(flat v=true∨v=undef) ∧ ∀ w,ix P f args.toArray w fun v' w'=>v'=v∧Below w.heap.size w w'):(X.pure f g).Ok P:=by
 refine ⟨hX.wcall,fun k args m ps v hc hp r w args' hr hgl ha => ?_,fun k hk args m m' => ?_,fun k args m q i B hi hc => ?_⟩
 ·simp only [Cx.pure] at hc
  split at hc
  ·rename_i e
   subst e
   split at hc
   ·rename_i hall
    obtain ⟨h1,h2⟩:=h args ps v hall hc hp
    have h1:tr r v=some v:=by
     rcases h1 with h1 | rfl
     ·exact cd r v h1
     ·exact dk r
    rw [ej hall] at ha
    cases ha
    rcases h2 w with ⟨v',w',p1,p2,p3⟩ | ⟨p1,p2⟩
    ·exact .inl ⟨v',w',p1,by rw [p2];exact h1,p3⟩
    ·refine .inr ⟨p1,p2.mono ?_⟩
     rintro e w' ⟨v',rfl,q1,q2⟩
     exact ⟨v',rfl,by rw [q1];exact h1,q2⟩
   ·simp at hc
  ·exact hX.call k args m ps v hc hp r w args' hr hgl ha
 ·simp only [Cx.pure] at hk ⊢
  split
  ·rfl
  ·rename_i e
   have:X.pf k=true:=by
    cases hp:X.pf k
    ·simp [hp,e] at hk
    ·rfl
   exact hX.pure k this args m m'
 ·simp only [Cx.pure] at hc ⊢
  split at hc
  ·rename_i e;rw [if_pos e];exact hc
  ·rename_i e;rw [if_neg e];exact hX.more k args m q i B hi hc
def Cx.read (X:Cx) (f:FuncId) (g:List Value→Mem→Option (List Prop × Value)):Cx :=
 ⟨fun k args m=>if k=f then g args m else X.C k args m,fun k => !(k == f) && X.pf k,X.sym,X.dec,fun k => !(k == f) && X.wf k,X.W,X.gl,X.deci⟩
theorem Cx.read_ok (hX:X.Ok P) {f:FuncId} {g:List Value→Mem→Option (List Prop × Value)}
  (h : ∀ args m ps v,g args m=some (ps,v)→(∀ p ∈ ps,p) → ∀ r w args',Rel r m w→(∀ g ∈ X.gl,r g=some g)→trL (tr r) args=some args'→ix P f args'.toArray w fun v' w'=>tr r v=some v'∧Below w.heap.size w w')
  (hmore : ∀ args (m:Mem) q i B,m[i]? = some none→g args m=some q→g args (m.set i (some B))=some q):(X.read f g).Ok P:=by
 refine ⟨hX.wcall,fun k args m ps v hc hp r w args' hr hgl ha => ?_,fun k hk args m m' => ?_,fun k args m q i B hi hc => ?_⟩
 ·simp only [Cx.read] at hc
  split at hc
  ·rename_i e;subst e;exact h args m ps v hc hp r w args' hr hgl ha
  ·exact hX.call k args m ps v hc hp r w args' hr hgl ha
 ·simp only [Cx.read,Bool.and_eq_true,Bool.not_eq_true',beq_eq_false_iff_ne] at hk ⊢
  rw [if_neg hk.1,if_neg hk.1]
  exact hX.pure k hk.2 args m m'
 ·simp only [Cx.read] at hc ⊢
  split at hc
  ·rename_i e;rw [if_pos e];exact hmore _ _ _ _ _ hi hc
  ·rename_i e;rw [if_neg e];exact hX.more k args m q i B hi hc
def Cx.none:Cx:=⟨fun _ _ _=>Option.none,fun _=>true,false,[],fun _=>false,fun _ _ _=>Option.none,[],[]⟩
theorem Cx.none_ok:Cx.none.Ok P:=⟨fun _ _ _ _ _ _ h=>(by cases h),fun _ _ _ _ _ h=>(by cases h),fun _ _ _ _ _=>rfl,fun _ _ _ _ _ _ _ h=>(by cases h)⟩
def Cx.tell (X:Cx) (dec:List (Nat × Bool)):Cx:=⟨X.C,X.pf,X.sym,dec,X.wf,X.W,X.gl,X.deci⟩
theorem Cx.tell_ok (hX:X.Ok P) (dec:List (Nat × Bool)):(X.tell dec).Ok P:=⟨hX.wcall,hX.call,hX.pure,hX.more⟩
def Cx.terms (X:Cx):Cx:=⟨X.C,X.pf,true,X.dec,X.wf,X.W,X.gl,X.deci⟩
def Cx.tellI (X:Cx) (deci:List (Nat × Int)):Cx:=⟨X.C,X.pf,X.sym,X.dec,X.wf,X.W,X.gl,deci⟩
theorem Cx.tellI_ok (hX:X.Ok P) (deci:List (Nat × Int)):(X.tellI deci).Ok P:=⟨hX.wcall,hX.call,hX.pure,hX.more⟩
theorem Cx.terms_ok (hX:X.Ok P):X.terms.Ok P:=⟨hX.wcall,hX.call,hX.pure,hX.more⟩
theorem fk {f : FuncId} {fn : Func} {c : Code} (hf : P.funcs[f]? = some fn) (hname : (fn.name == "runtime.NumGoroutine") = false) (hb : fn.body = some c) {args : Array Value} {w : World} {R : Value → World → Prop}
  (h:Calls P f args w fun e w' => ∃ v,e = .returned v∧R v w'):ix P f args w R:=by
 refine .inr ⟨?_,h⟩
 simp only [callFunc,Sem.run_bind,run_program,Result.andThen_ok,hf,hname,hb,Option.isNone_some,Bool.false_eq_true,if_false]
 rfl
def sfun (P:Program) (X:Cx) (n:Nat) (fn:Func) (c:Code) (args:List Value):Option (List Prop × Value) :=
 match sexec P X n c [] (bS fn args,[]) with
 | some (ps,.normal,s)=>if s.1.defers.isEmpty then (sres P fn s).map fun v=>(ps,v) else none
 | some (ps,.ret,s)=>if s.1.defers.isEmpty then (sres P fn s).map fun v=>(ps,v) else none
 | _=>none
theorem aq (hX:X.Ok P) (hm:P.follows .mixedOrders=true) {n:Nat} {f:FuncId} {fn:Func} {c:Code} (hf:P.funcs[f]? = some fn) (hb:fn.body=some c) {args:List Value} {ps:List Prop} {v:Value} (h:sfun P X n fn c args=some (ps,v)) (hp : ∀ p ∈ ps,p) (ha:args.all flat=true) (hv:flat v=true∨v=undef) (w:World) (hg:X.gl = []:=by rfl) :
  Calls P f args.toArray w fun e w'=>e = .returned v∧Below w.heap.size w w':=by
 unfold sfun at h
 have key : ∀ e s,(e = .normal∨e = .ret)→sexec P X n c [] (bS fn args,[])=some (ps,e,s)→s.1.defers.isEmpty=true→sres P fn s=some v→Calls P f args.toArray w fun e w'=>e = .returned v∧Below w.heap.size w w':=by
  intro e s he hs hd hr
  refine (cD (R:=fun u=>u=v) (args:=args) (args':=args) (m:=[]) (r:=fun _=>none) hf hb (SW.run hX hm n hs hp ?_) (Rel.nil w) (by rw [hg];simp) (ej ha)).mono ?_
  ·exact ⟨he,by simpa using hd,v,s.2,hr,hv,rfl,rfl⟩
  ·rintro e' w' ⟨u,rfl,rfl,hb⟩
   exact ⟨rfl,hb⟩
 split at h
 ·rename_i s hs
  split at h
  ·rename_i hd
   cases hr:sres P fn s with
   | none=>simp [hr] at h
   | some u =>
    simp only [hr,YO,qG,qH] at h
    obtain ⟨rfl,rfl⟩:=h
    exact key _ s (.inl rfl) hs hd hr
  ·simp at h
 ·rename_i s hs
  split at h
  ·rename_i hd
   cases hr:sres P fn s with
   | none=>simp [hr] at h
   | some u =>
    simp only [hr,YO,qG,qH] at h
    obtain ⟨rfl,rfl⟩:=h
    exact key _ s (.inr rfl) hs hd hr
  ·simp at h
 ·simp at h
def cL:Code→Code
 | .seq a _=>a
 | .cond _ a _=>a
 | .block _ a=>a
 | .loop a=>a
 | c=>c
def cR:Code→Code
 | .seq _ b=>b
 | .cond _ _ b=>b
 | c=>c
def cI:Code→Nat
 | .block i _=>i
 | _=>0
theorem SW.seqC {c:Code} {s:Act × Mem} {Q:Exit→Act × Mem→Prop} (hc:c = .seq (cL c) (cR c)) (h:SW P gl (cL c) s (thenS (fun s'=>SW P gl (cR c) s' Q) Q)):SW P gl c s Q:=by
 rw [hc];exact SW.seq h
theorem SW.blockC {c:Code} {s:Act × Mem} {Q:Exit→Act × Mem→Prop} (hc:c = .block (cI c) (cL c)) (h:SW P gl (cL c) s (blockS (cI c) Q)):SW P gl c s Q:=by
 rw [hc];exact SW.block h
theorem SW.loopC {c:Code} {s:Act × Mem} {Q:Exit→Act × Mem→Prop} (hc:c = .loop (cL c)) (I:Nat→Act × Mem→Prop) (n:Nat) (h0:I n s)
  (round : ∀ n s,I n s→SW P gl (cL c) s (thenS (fun s' => ∃ k,k<n∧I k s') Q)):SW P gl c s Q:=by
 rw [hc];exact SW.loop I n h0 round
end Go.Proofs.YtajehiidpecknaaGreatDoor
