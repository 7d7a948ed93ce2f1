/- Blocks let go; slices that stay the world's own; codes run one behind the other beneath H; results of functions begun beneath H. -/
import Derived.Test.YtlihbglpdkeppaaGreatDoorMemL
set_option linter.unusedSimpArgs false
set_option linter.unusedVariables false
namespace Go.Proofs.YtlihbglpdkeppaaGreatDoor
open Go Go.RowKit
variable {H:Ren→World→Prop} {gl:List Nat} {r₀ r:Ren} {w₀ w:World} {P:Program} {X:Cx} {Q:Exit→Act × Mem→Prop}
def Low (n0:Nat) (r:Ren):Prop := ∀ b c,r b=some c→b<n0
theorem SWn.forget {c:Code} {a:Act} {m:Mem} (l:List Nat) (h:SWn H P gl c (forgetL a l,m) Q):SWn H P gl c (a,m) Q :=
 fun r₀ w₀ A w r hH S=>h r₀ w₀ A w r hH (Sim.forgetL l S)
theorem es1_flatR (σ:Ren) (v:Value) (h:flatR v=true):es1 σ v=some v:=by
 unfold flatR at h
 split at h
 ·rfl
 ·exact es1_flat σ v h
theorem getB_take (m:Mem) (j i:Nat):getB (m.take j) i=if i<j then getB m i else none:=by
 unfold getB
 rw [List.getElem?_take]
 split <;> rfl
def memR (m:Mem):Bool:=m.all fun o=>match o with
 | some B=>B.cells.all flatR
 | none=>true
theorem memR_get {m:Mem} (h:memR m=true) {b:Nat} {B:Blk} (hB:getB m b=some B):B.cells.all flatR=true:=by
 have hl:=getB_lt hB
 have hm:some B ∈ m:=by
  unfold getB at hB
  rw [List.getElem?_eq_getElem hl] at hB
  simp only [Option.getD_some] at hB
  rw [←hB];exact List.getElem_mem hl
 exact List.all_eq_true.1 h _ hm
theorem memR_app {m m':Mem} (h:memR m=true) (h':memR m'=true):memR (m ++ m')=true:=by
 unfold memR at *;rw [List.all_append,h,h'];rfl
theorem memR_one {l:List Value} {ty:BT} (h:l.all flatR=true):memR [some ⟨l,ty⟩]=true:=by
 simp only [memR,List.all_cons,List.all_nil,Bool.and_true];exact h
def fixA (m:Mem) (j:Nat) (a:Act):Bool:=a.tmps.toList.all fun v => !good v || fixV m j v
theorem fixA_at {m:Mem} {j:Nat} {a:Act} (h:fixA m j a=true) (t:Nat):a.eval (.tmp t)=poison∨fixV m j (a.eval (.tmp t))=true:=by
 by_cases hl:t<a.tmps.size
 ·have hm:a.tmps[t] ∈ a.tmps.toList:=by simp
  have:=List.all_eq_true.1 h _ hm
  have e:a.eval (.tmp t)=a.tmps[t]:=by simp [Act.eval,hl]
  rw [e]
  simp only [Bool.or_eq_true,Bool.not_eq_true'] at this
  rcases this with h1 | h1
  ·exact .inl (not_good h1)
  ·exact .inr h1
 ·have e:a.eval (.tmp t)=undef:=by simp [Act.eval,Array.getElem?_eq_none (Nat.le_of_not_lt hl)]
  rw [e];exact .inr rfl
theorem fixV_take {m:Mem} {j:Nat} {v:Value} (h:fixV (m.take j) j v=true):fixV m j v=true:=by
 unfold fixV at h ⊢
 split at h
 ·rename_i a
  simp only [Bool.and_eq_true,decide_eq_true_eq] at h ⊢
  refine ⟨h.1,?_⟩
  have:=h.2
  rw [getB_take,if_pos h.1] at this;exact this
 ·rename_i a _ _
  simp only [Bool.and_eq_true,decide_eq_true_eq] at h ⊢
  refine ⟨h.1,?_⟩
  have:=h.2
  rw [getB_take,if_pos h.1] at this;exact this
 ·exact h
 ·exact h
def idR (m:Mem) (j:Nat):Ren:=fun k=>if k<j then (getB m k).map (fun _=>k) else none
theorem idR_some {m:Mem} {j k x:Nat} (h:idR m j k=some x):x=k∧k<j ∧ ∃ B,getB m k=some B:=by
 unfold idR at h
 split at h
 ·rename_i e
  cases hq:getB m k with
  | none=>simp [hq] at h
  | some B=>simp only [hq,Option.map_some,Option.some.injEq] at h;exact ⟨h.symm,e,B,rfl⟩
 ·cases h
theorem fixV_id {m:Mem} {j:Nat} {v:Value} (h:fixV m j v=true):es (idR m j) v=some v:=by
 have hz : ∀ a:Addr,a.block<j→(getB m a.block).isSome=true→idR m j a.block=some a.block:=by
  intro a h1 h2
  unfold idR
  rw [if_pos h1]
  obtain ⟨B,hB⟩:=Option.isSome_iff_exists.1 h2
  simp [hB]
 cases v with
 | pointer p =>
  cases p with
  | none=>rfl
  | some a =>
   simp only [fixV,Bool.and_eq_true,decide_eq_true_eq] at h
   simp [es,es1,hz a h.1 h.2]
 | slice p l c =>
  cases p with
  | none=>rfl
  | some a =>
   simp only [fixV,Bool.and_eq_true,decide_eq_true_eq] at h
   simp [es,es1,hz a h.1 h.2]
 | tuple vs =>
  simp only [fixV] at h
  simp only [es,if_pos h]
 | agg cs =>
  have h':cs.toList.all flat1=true:=by simpa [fixV,flat,flat2] using h
  have:=trL_all (f:=es1 (idR m j)) (p:=flat1) (es1_flat _) h'
  simp [es,this]
 | map p =>
  have h':flat1 (.map p)=true:=h
  exact (es1_flat (idR m j) (.map p) h':es1 _ _=_)
 | chan p =>
  have h':flat1 (.chan p)=true:=h
  exact (es1_flat (idR m j) (.chan p) h':es1 _ _=_)
 | _=>first | rfl | (simp [fixV,flat,flat2,flat1] at h;done)
theorem SWn.trim {n0 j:Nat} {a:Act} {m:Mem} {c:Code} (hlow : ∀ r₀ w₀,H r₀ w₀→Low n0 r₀) (hn:n0≤j) (hkeep:memR (m.take j)=true) (hfix:fixA (m.take j) j a=true) (hgl : ∀ g ∈ gl,g<j∧(getB m g).isSome=true)
  (h:SWn H P gl c (a,m.take j) Q):SWn H P gl c (a,m) Q:=by
 refine SWn.embed hlow (s':=(a,m.take j)) (s:=(a,m)) (σ:=idR m j) ⟨?_,?_,?_,?_,?_,rfl,?_,rfl,?_⟩ h
 ·intro b' B' hB'
  have hr:=memR_get hkeep hB'
  rw [getB_take] at hB'
  split at hB'
  ·rename_i e
   exact ⟨b',B',by simp [idR,e,hB'],hB',rfl,trL_all (es1_flatR _) hr⟩
  ·cases hB'
 ·intro b' x hx
  obtain ⟨_,e,B,hB⟩:=idR_some hx
  exact ⟨B,by rw [getB_take,if_pos e];exact hB⟩
 ·intro i i' x h1 h2
  rw [← (idR_some h1).1,← (idR_some h2).1]
 ·rintro i hi ⟨B,hB⟩
  simp only at hB
  simp [idR,show i<j by omega,hB]
 ·intro b' x hx hlt
  exact (idR_some hx).1.symm
 ·intro t
  rcases fixA_at hfix t with e | e
  ·exact .inl e
  ·exact .inr (fixV_id (fixV_take e))
 ·intro g hg
  obtain ⟨h1,h2⟩:=hgl g hg
  obtain ⟨B,hB⟩:=Option.isSome_iff_exists.1 h2
  simp [idR,h1,hB]
theorem SWn.trimK {n0:Nat} (j:Nat) (l:List Nat) {s t:Act × Mem} {c:Code} (ht:(forgetL s.1 l,s.2.take j)=t) (hlow : ∀ r₀ w₀,H r₀ w₀→Low n0 r₀) (hn:n0≤j) (hkeep:memR t.2=true) (hfix:fixA t.2 j t.1=true) (hgl : ∀ g ∈ gl,g<j∧(getB t.2 g).isSome=true)
  (h:SWn H P gl c t Q):SWn H P gl c s Q:=by
 obtain ⟨a,m⟩:=s
 subst ht
 refine SWn.forget l (SWn.trim hlow hn hkeep hfix (fun g hg => ?_) h)
 obtain ⟨h1,h2⟩:=hgl g hg
 refine ⟨h1,?_⟩
 rw [getB_take,if_pos h1] at h2;exact h2
theorem SWn.normK {n0:Nat} (j d b k cap:Nat) (l:List Nat) {cells:List Value} {ty:TypeId} {s t:Act × Mem} {c:Code}
  (hd:(forgetL s.1 l).eval (.tmp d) = .slice (some ⟨b,0,none⟩) k cap) (hds:d<(forgetL s.1 l).tmps.size) (hb:getB s.2 b=some ⟨cells,ty⟩) (hj:j≤b) (hcf:cells.all flat1=true)
  (ht:((forgetL s.1 l).put (some d) (.slice (some ⟨j,0,none⟩) k cap),s.2.take j ++ [some ⟨cells,ty⟩])=t) (hlow : ∀ r₀ w₀,H r₀ w₀→Low n0 r₀) (hn:n0≤j) (hkeep:memR (s.2.take j)=true) (hfix:fixAll (s.2.take j) j d (forgetL s.1 l)=true) (hgl : ∀ g ∈ gl,g<j∧(getB (s.2.take j) g).isSome=true)
  (h:SWn H P gl c t Q):SWn H P gl c s Q:=by
 obtain ⟨a,m⟩:=s
 subst ht
 simp only at *
 refine SWn.forget l (SWn.norm (cells:=cells) (ty:=ty) (b:=b) (j:=j) hlow hn hj hd hds hb hcf (fun i B hi hB => ?_) ?_ (fun g hg => ?_) h)
 ·exact trL_all (es1_flatR _) (memR_get hkeep (by rw [getB_take,if_pos hi];exact hB))
 ·refine List.all_eq_true.2 fun p hp => ?_
  have:=List.all_eq_true.1 hfix p hp
  simp only [Bool.or_eq_true] at this ⊢
  rcases this with h1 | h1 | h1
  ·exact .inl h1
  ·exact .inr (.inl h1)
  ·exact .inr (.inr (fixV_take h1))
 ·obtain ⟨h1,h2⟩:=hgl g hg
  refine ⟨h1,?_⟩
  rw [getB_take,if_pos h1] at h2;exact h2
theorem sexecLn_sound (hX:X.Ok P) (hm:P.follows .mixedOrders=true) {n:Nat} {rest:Code} {rs:List Prop} (hrs : ∀ p ∈ rs,p) : ∀ (cs:List Code) (qs:List Prop) (s s':Act × Mem),sexecL P X n cs qs s=some (rs,s')→SWn H P X.gl rest s' Q→SWn H P X.gl (seqs cs rest) s Q
 | [],qs,s,s',h,hq=>by simp only [sexecL,Option.some.injEq,Prod.mk.injEq] at h;rw [h.2];exact hq
 | c :: cs,qs,s,s',h,hq=>by
  simp only [sexecL] at h
  split at h
  ·rename_i q1 s1 h1
   refine SWn.seq ((SW.n (sexec_sound hX hm hrs n c qs _ s _ _ h1 (sexecL_ob cs _ _ _ _ h))).mono ?_)
   rintro e s2 ⟨rfl,rfl⟩
   exact sexecLn_sound hX hm hrs cs _ _ _ h hq
  ·simp at h
theorem SWn.preG (hX:X.Ok P) (hm:P.follows .mixedOrders=true) (hg:X.gl=gl) {n:Nat} {c rest:Code} {cs:List Code} {s s':Act × Mem} {ps:List Prop} (hc:c=seqs cs rest) (h:sexecL P X n cs [] s=some (ps,s')) (hp : ∀ p ∈ ps,p) (hq:SWn H P gl rest s' Q):SWn H P gl c s Q:=by
 subst hg;rw [hc];exact sexecLn_sound hX hm hp cs [] s s' h hq
theorem SWn.runG (hX:X.Ok P) (hm:P.follows .mixedOrders=true) (hg:X.gl=gl) {c:Code} {s s':Act × Mem} {e:Exit} {ps:List Prop} (n:Nat) (h:sexec P X n c [] s=some (ps,e,s')) (hp : ∀ p ∈ ps,p) (hq:Q e s'):SWn H P gl c s Q :=
 (SW.runG hX hm hg n h hp hq).n
def WSrc (v:Value) (n:Nat) (news:List Value) (w:World):Prop :=
 news.length=n∧((∃ c,v = .slice none 0 c∧n=0) ∨ ∃ c o cap,v = .slice (some ⟨c,o,none⟩) n cap∧c<w.heap.size ∧ ∀ j u,news[j]? = some u→w.cell? ⟨c,o+j,none⟩=some u)
def apart (r:Ren):Value→Prop
 | .slice (some a) n _=>n=0 ∨ ∀ b:Nat,r b≠some a.block
 | _=>True
theorem WSrc.src {v:Value} {n:Nat} {news:List Value} (h:WSrc v n news w) {tx e':TypeId} (hk:P.underlying tx=some (.slice e')) (hf:news.all flat1=true):Go.Src P 1 tx v n news w:=by
 obtain ⟨hl,⟨c,rfl,rfl⟩ | ⟨c,o,cap,rfl,hc,hj⟩⟩:=h
 ·rw [List.length_eq_zero_iff.1 hl]
  exact Go.Src.ofNil w hk c
 ·refine Go.Src.ofSlice w hk ⟨c,o,none⟩ n cap news (by rw [hl,Nat.mul_one]) (fun j u hu => ?_) (fun u hu=>flat1_one (List.all_eq_true.1 hf u hu))
  rw [Addr.add_mid];exact hj j u hu
theorem WSrc.fr {v:Value} {n:Nat} {news:List Value} (h:WSrc v n news w₀) (ha:apart r₀ v) (hf:Fr r₀ w₀ w):WSrc v n news w:=by
 obtain ⟨hl,⟨c,rfl,rfl⟩ | ⟨c,o,cap,rfl,hc,hj⟩⟩:=h
 ·exact ⟨hl,.inl ⟨c,rfl,rfl⟩⟩
 ·refine ⟨hl,.inr ⟨c,o,cap,rfl,Nat.lt_of_lt_of_le hc hf.size,fun j u hu => ?_⟩⟩
  have:=hj j u hu
  rcases ha with rfl | ha
  ·rw [List.length_eq_zero_iff.1 hl] at hu;cases hu
  have hb:=hf.block c hc ha
  simp only [World.cell?] at this ⊢
  rw [hb];exact this
theorem WSrc.below {v:Value} {n:Nat} {news:List Value} (h:WSrc v n news w₀) (hb:Below w₀.heap.size w₀ w):WSrc v n news w:=by
 obtain ⟨hl,⟨c,rfl,rfl⟩ | ⟨c,o,cap,rfl,hc,hj⟩⟩:=h
 ·exact ⟨hl,.inl ⟨c,rfl,rfl⟩⟩
 ·refine ⟨hl,.inr ⟨c,o,cap,rfl,Nat.lt_of_lt_of_le hc hb.size,fun j u hu => ?_⟩⟩
  have:=hj j u hu
  simp only [World.cell?] at this ⊢
  rw [hb.block c hc];exact this
theorem tr_raw {v v':Value} (h:tr r (raw v)=some v'):v'=v:=by
 simp only [raw,tr,List.size_toArray,List.length_singleton,if_true,tr1] at h
 split at h
 ·simpa using h.symm
 ·simp at h
theorem SrcS.raw {tx e':TypeId} (hk:P.underlying tx=some (.slice e')) {m:Mem} {v:Value} {n:Nat} {news:List Value} (hf:news.all flat1=true) (h : ∀ r₀ w₀,H r₀ w₀→WSrc v n news w₀∧apart r₀ v):SrcS H P tx m (raw v) n news:=by
 refine ⟨hf,fun r₀ w₀ w r hH hfr _ v' hv => ?_⟩
 rw [tr_raw hv]
 obtain ⟨h1,h2⟩:=h r₀ w₀ hH
 exact (h1.fr h2 hfr).src hk hf
theorem SWL.load {ops:Array Oper} {s:Act × Mem} {l:List Nat} {i:Nat} {o:Oper} {t:TypeId} {x:Operand} {b k:Nat} {v:Value} (ho:ops[i]? = some o) (hg:o.guard=none) (hop:o.op = .load t x) (hx:okX gl s.1.eval x=true) (he:s.1.eval x = .pointer (some ⟨b,k,none⟩)) (hl:sload P t b k s.2=some v)
  (h:SWL H P gl ops l (s.1.put o.dst v,s.2) Q):SWL H P gl ops (i :: l) s Q:=by
 refine SWL.op ho hg fun r₀ w₀ A w r hH S => ?_
 have h1:=S.eval hx
 rw [he] at h1
 obtain ⟨c,hc,e⟩:=tr_ptr h1
 obtain ⟨v',h2,h3⟩:=load_run S.rel hc hl
 refine ⟨v',w,_,r,?_,S.put0 h2 o.dst,h⟩
 simp [execOp,hop,e,Instr.loadAt,Instr.sureAddr,h3]
theorem calls_of_SWn {f:FuncId} {fn:Func} {c:Code} {args:List Value} {m:Mem} {R:Value→Prop} (hf:P.funcs[f]? = some fn) (hb:fn.body=some c)
  (h:SWn H P gl c (sinit fn args,m) fun e s=>(e = .normal∨e = .ret)∧s.1.defers = [] ∧ ∃ v,sres P fn s=some v∧(flat v=true∨v=undef)∧(∀ i B,getB m i=some B→getB s.2 i=some B)∧R v)
  {r:Ren} {w:World} {args':List Value} (hr:Rel r m w) (hH:H r w) (hgl : ∀ g ∈ gl,r g=some g) (ha:trL (tr r) args=some args') :
  Calls P f args'.toArray w fun e w' => ∃ v,e = .returned v∧R v∧Below w.heap.size w w':=by
 refine calls_of_wp hf hb ?_
 have S:Sim gl r w (sinit fn args) m { tmps:=args'.toArray ++ Array.replicate (fn.ntmps - args'.toArray.size) undef,defers:=[] } w r:=by
  have hl:=trL_len ha
  obtain ⟨h1,h2⟩:=tmps_of (trL_append ha (trL_rep r (fn.ntmps - args.length))) (sinit fn args) { tmps:=args'.toArray ++ Array.replicate (fn.ntmps - args'.toArray.size) undef,defers:=[] }
   (by simp [sinit]) (by simp [hl])
  exact ⟨hr,⟨Le.refl _,fun _ _ h => .inl h⟩,Fr.refl _ _,h1,h2,rfl,hgl⟩
 refine wp_mono (h r w _ w r hH S) ?_
 rintro e A' w' ⟨s,r',⟨he,hd,v,h1,h2,h3,h4⟩,S'⟩
 obtain ⟨v',e1,e2⟩:=sres_run (a:=s.1) (m:=s.2) S' h1
 have hv:tr r' v=some v:=by
  rcases h2 with h2 | rfl
  ·exact tr_flat r' v h2
  ·exact tr_undef r'
 rw [hv] at e1
 cases e1
 have hbel:Below w.heap.size w w':=by
  refine ⟨S'.fr.os,S'.fr.tape,S'.fr.output,S'.fr.size,fun k hk => ?_⟩
  by_cases hm : ∃ b,r b=some k
  ·obtain ⟨b,hbk⟩:=hm
   obtain ⟨B,hB⟩:=hr.full b k hbk
   obtain ⟨c1,cs1,p1,p2,p3⟩:=hr.cells b B hB
   rw [hbk] at p1;cases p1
   obtain ⟨c2,cs2,q1,q2,q3⟩:=S'.rel.cells b B (h3 b B hB)
   rw [S'.ext.1 _ _ hbk] at q1;cases q1
   rw [trL_mono (tr1_more S'.ext.1) p2] at q2
   cases q2
   rw [q3,p3]
  ·exact S'.fr.block k hk (fun b e=>hm ⟨b,e⟩)
 have hdef:A'.defers = []:=S'.defers.trans hd
 rcases he with rfl | rfl
 ·exact ⟨hdef,v,e2,v,rfl,h4,hbel⟩
 ·exact ⟨hdef,v,e2,v,rfl,h4,hbel⟩
end Go.Proofs.YtlihbglpdkeppaaGreatDoor
namespace Go.Proofs.YtlihbglpdkeppaaGreatDoor
open Go Go.RowKit
variable {H:Ren→World→Prop} {gl:List Nat} {P:Program} {X:Cx} {Q:Exit→Act × Mem→Prop}
def Into (H:Ren→World→Prop) (P:Program) (gl:List Nat) (t s:Act × Mem):Prop := ∀ c Q,SWn H P gl c t Q→SWn H P gl c s Q
theorem Into.refl (s:Act × Mem):Into H P gl s s:=fun _ _ h=>h
theorem Into.trans {t s u:Act × Mem} (h:Into H P gl t s) (k:Into H P gl u t):Into H P gl u s:=fun c Q hq=>h c Q (k c Q hq)
structure OwnRow (y:List Value) (cap:Nat) (cells:List Value):Prop where
 len:cells.length=cap
 le:y.length≤cap
 eq:cells.take y.length=y
 flat:cells.all flat1=true
theorem OwnRow.room {y news cells:List Value} {cap:Nat} (h:OwnRow y cap cells) (hr:y.length+news.length≤cap) (hf:news.all flat1=true):OwnRow (y ++ news) cap (putL cells y.length news):=by
 have hl:=h.len
 refine ⟨by rw [putL_len _ _ _ (by omega)];exact hl,by rw [List.length_append];exact hr,?_,putL_all _ _ _ _ h.flat hf⟩
 unfold putL
 rw [h.eq,←List.append_assoc]
 exact List.take_left' rfl
theorem OwnRow.grow {y news cells:List Value} {cap c:Nat} {z:Value} (h:OwnRow y cap cells) (hc:y.length+news.length≤c) (hf:news.all flat1=true) (hz:flat1 z=true):OwnRow (y ++ news) c (cells.take y.length ++ news ++ List.replicate (c - (y.length+news.length)) z):=by
 rw [h.eq]
 have hy:y.all flat1=true:=by
  rw [←h.eq]
  exact List.all_eq_true.2 fun v hv=>List.all_eq_true.1 h.flat v (List.mem_of_mem_take hv)
 refine ⟨by simp;omega,by rw [List.length_append];exact hc,List.take_left' rfl,?_⟩
 rw [List.all_append,List.all_append,hy,hf]
 simp only [Bool.true_and,List.all_replicate]
 split
 ·rfl
 ·exact hz
def seqS (P:Program) (X:Cx) (ops:Array Oper) (h0:Nat) (l:List Nat) (s:Act × Mem):Act × Mem :=
 match sseq P X ops h0 l [] s with
 | some (_,s')=>s'
 | none=>s
theorem SWn.app {n0 id:Nat} {ops:Array Oper} {post:List Nat} {i:Nat} {o:Oper} {sx xx:Operand} {t tx e:TypeId} {info:TypeInfo} {z:Value}
  (hX:X.Ok P) (hgl:X.gl=gl) (ho:ops[i]? = some o) (hg:o.guard=none) (hop:o.op = .call { callee := .builtin .append,args := #[sx,xx],argTypes := #[t,tx] })
  (ht:P.underlying t=some (.slice e)) (hi:P.info? e=some info) (hz:info.zero=some z) (hsz:info.size=1) (hby:info.bytes=1) (hzc:z.cells = #[z]) (hzf:flat1 z=true)
  {s s1:Act × Mem} {h0:Nat} (hpre : ∀ Q',SWL H P gl ops (i :: post) s1 Q'→SWL H P gl ops (List.range ops.size) (s.1,s.2 ++ List.replicate (ops.toList.filter makes).length none) Q')
  {y news cells:List Value} {cap n j d:Nat} {F:List Nat} {A1:Nat→Act} {A2:Nat→Nat→Act} {mb:Mem}
  (hsx:okX gl s1.1.eval sx=true) (hxx:okX gl s1.1.eval xx=true) (hown:s1.1.eval sx = .slice (some ⟨j,0,none⟩) y.length cap) (hrow:OwnRow y cap cells) (hb:getB s1.2 j=some ⟨cells,⟨e,(0,0)⟩⟩)
  (hsrc:SrcS H P tx s1.2 (s1.1.eval xx) n news) (hn:news.length=n) (hsize:y.length+n≤140737488355328)
  (hpost : ∀ b' cap' m',sseq P X ops h0 post [] (s1.1.put o.dst (.slice (some ⟨b',0,none⟩) (y.length+n) cap'),m')=some ([],(A2 b' cap',m')))
  (hA2 : ∀ b' cap',(forgetL (A2 b' cap') F).eval (.tmp d) = .slice (some ⟨b',0,none⟩) (y.length+n) cap'∧d<(forgetL (A2 b' cap') F).tmps.size∧(forgetL (A2 b' cap') F).put (some d) (.slice (some ⟨j,0,none⟩) (y.length+n) cap')=A1 cap'∧fixAll mb j d (forgetL (A2 b' cap') F)=true)
  (hmb:s1.2.take j=mb) (hkeep:memR mb=true) (hlow : ∀ r₀ w₀,H r₀ w₀→Low n0 r₀) (hn0:n0≤j) (hglj : ∀ g ∈ gl,g<j∧(getB mb g).isSome=true) :
  SWn H P gl (.region id ops false) s (thenS (fun s' => ∃ cap' cells',OwnRow (y ++ news) cap' cells'∧Into H P gl (A1 cap',mb ++ [some ⟨cells',⟨e,(0,0)⟩⟩]) s') Q):=by
 subst hn
 have hj:=getB_lt hb
 have key : ∀ b' cap' m' cells',OwnRow (y ++ news) cap' cells'→getB m' b'=some ⟨cells',⟨e,(0,0)⟩⟩→j≤b'→m'.take j=mb→SWL H P gl ops post (s1.1.put o.dst (.slice (some ⟨b',0,none⟩) (y.length+news.length) cap'),m') (thenS (fun s' => ∃ cap' cells',OwnRow (y ++ news) cap' cells'∧Into H P gl (A1 cap',mb ++ [some ⟨cells',⟨e,(0,0)⟩⟩]) s') Q):=by
  intro b' cap' m' cells' hr hb' hjb hm
  have:=SWL.steps (H:=H) (Q:=thenS (fun s' => ∃ cap' cells',OwnRow (y ++ news) cap' cells'∧Into H P gl (A1 cap',mb ++ [some ⟨cells',⟨e,(0,0)⟩⟩]) s') Q) hX hgl (by simp) (l2:=[]) (SWL.nil ?_) post [] _ (hpost b' cap' m')
  ·rw [List.append_nil] at this;exact this
  ·refine ⟨cap',cells',hr,fun c Q' hq => ?_⟩
   obtain ⟨a1,a2,a3,a4⟩:=hA2 b' cap'
   refine SWn.normK (n0:=n0) j d b' (y.length+news.length) cap' F (cells:=cells') (ty:=e) (s:=(A2 b' cap',m')) a1 a2 hb' hjb hr.flat ?_ hlow hn0 (by rw [hm];exact hkeep) (by rw [hm];exact a4) (by rw [hm];exact hglj) hq
   simp only
   rw [a3,hm]
 refine SWn.region (hpre _ ?_)
 refine SWL.append (k:=y.length) (cap:=cap) (n:=news.length) (cells:=cells) (news:=news) (ty:=e) (bo:=some j) ho hg hop ht hi hz hsz hby hzc hzf hsx hxx (by rw [hown];exact .row j _ cap cells e hb hrow.len hrow.le) hsrc hsize (fun h=>by cases h) (fun b hb2 hroom => ?_) (fun hgrow c hc => ?_)
 ·cases hb2
  refine key j cap _ _ (hrow.room hroom hsrc.1) ?_ (Nat.le_refl _) ?_
  ·rw [getB_set,if_pos ⟨rfl,hj⟩]
  ·rw [List.take_set_of_le (Nat.le_refl _)];exact hmb
 ·refine key s1.2.length c _ _ (hrow.grow hc hsrc.1 hzf) ?_ (by omega) ?_
  ·rw [getB_snoc,if_pos rfl]
  ·rw [List.take_append_of_le_length (by omega)];exact hmb
theorem SWn.app0 {n0 id:Nat} {ops:Array Oper} {post:List Nat} {i:Nat} {o:Oper} {sx xx:Operand} {t tx e:TypeId} {info:TypeInfo} {z:Value}
  (hX:X.Ok P) (hgl:X.gl=gl) (ho:ops[i]? = some o) (hg:o.guard=none) (hop:o.op = .call { callee := .builtin .append,args := #[sx,xx],argTypes := #[t,tx] })
  (ht:P.underlying t=some (.slice e)) (hi:P.info? e=some info) (hz:info.zero=some z) (hsz:info.size=1) (hby:info.bytes=1) (hzc:z.cells = #[z]) (hzf:flat1 z=true)
  {s s1:Act × Mem} {h0:Nat} (hpre : ∀ Q',SWL H P gl ops (i :: post) s1 Q'→SWL H P gl ops (List.range ops.size) (s.1,s.2 ++ List.replicate (ops.toList.filter makes).length none) Q')
  {news:List Value} {n j d:Nat} {F:List Nat} {A1:Nat→Act} {A2:Nat→Nat→Act} {mb:Mem}
  (hsx:okX gl s1.1.eval sx=true) (hxx:okX gl s1.1.eval xx=true) (hown:s1.1.eval sx = .slice none 0 0)
  (hsrc:SrcS H P tx s1.2 (s1.1.eval xx) n news) (hn:news.length=n) (hpos:0<n) (hsize:n≤140737488355328)
  (hpost : ∀ b' cap' m',sseq P X ops h0 post [] (s1.1.put o.dst (.slice (some ⟨b',0,none⟩) n cap'),m')=some ([],(A2 b' cap',m')))
  (hA2 : ∀ b' cap',(forgetL (A2 b' cap') F).eval (.tmp d) = .slice (some ⟨b',0,none⟩) n cap'∧d<(forgetL (A2 b' cap') F).tmps.size∧(forgetL (A2 b' cap') F).put (some d) (.slice (some ⟨j,0,none⟩) n cap')=A1 cap'∧fixAll mb j d (forgetL (A2 b' cap') F)=true)
  (hj:j≤s1.2.length) (hmb:s1.2.take j=mb) (hkeep:memR mb=true) (hlow : ∀ r₀ w₀,H r₀ w₀→Low n0 r₀) (hn0:n0≤j) (hglj : ∀ g ∈ gl,g<j∧(getB mb g).isSome=true) :
  SWn H P gl (.region id ops false) s (thenS (fun s' => ∃ cap' cells',OwnRow news cap' cells'∧Into H P gl (A1 cap',mb ++ [some ⟨cells',⟨e,(0,0)⟩⟩]) s') Q):=by
 subst hn
 have key : ∀ b' cap' m' cells',OwnRow news cap' cells'→getB m' b'=some ⟨cells',⟨e,(0,0)⟩⟩→j≤b'→m'.take j=mb→SWL H P gl ops post (s1.1.put o.dst (.slice (some ⟨b',0,none⟩) news.length cap'),m') (thenS (fun s' => ∃ cap' cells',OwnRow news cap' cells'∧Into H P gl (A1 cap',mb ++ [some ⟨cells',⟨e,(0,0)⟩⟩]) s') Q):=by
  intro b' cap' m' cells' hr hb' hjb hm
  have:=SWL.steps (H:=H) (Q:=thenS (fun s' => ∃ cap' cells',OwnRow news cap' cells'∧Into H P gl (A1 cap',mb ++ [some ⟨cells',⟨e,(0,0)⟩⟩]) s') Q) hX hgl (by simp) (l2:=[]) (SWL.nil ?_) post [] _ (hpost b' cap' m')
  ·rw [List.append_nil] at this;exact this
  ·refine ⟨cap',cells',hr,fun c Q' hq => ?_⟩
   obtain ⟨a1,a2,a3,a4⟩:=hA2 b' cap'
   refine SWn.normK (n0:=n0) j d b' news.length cap' F (cells:=cells') (ty:=e) (s:=(A2 b' cap',m')) a1 a2 hb' hjb hr.flat ?_ hlow hn0 (by rw [hm];exact hkeep) (by rw [hm];exact a4) (by rw [hm];exact hglj) hq
   simp only
   rw [a3,hm]
 refine SWn.region (hpre _ ?_)
 have e0:OwnRow [] 0 []:=⟨rfl,Nat.le_refl _,rfl,rfl⟩
 refine SWL.append (k:=0) (cap:=0) (n:=news.length) (cells:=[]) (news:=news) (ty:=e) (bo:=none) ho hg hop ht hi hz hsz hby hzc hzf hsx hxx (by rw [hown];exact .nil e) hsrc (by omega) (fun _ h=>by omega) (fun b hb2=>by cases hb2) (fun hgrow c hc => ?_)
 rw [Nat.zero_add] at hc ⊢
 have hr:=e0.grow (c:=c) (news:=news) (z:=z) (by simpa using hc) hsrc.1 hzf
 simp only [List.length_nil,Nat.zero_add,List.nil_append] at hr
 refine key s1.2.length c _ _ hr ?_ hj ?_
 ·rw [getB_snoc,if_pos rfl]
 ·rw [List.take_append_of_le_length hj];exact hmb
def rOps:Code→Array Oper
 | .region _ ops _=>ops
 | _ => #[]
def rId:Code→Nat
 | .region i _ _=>i
 | _=>0
structure ByteT (P:Program) (t e:TypeId) (z:Value):Prop where
 ht:P.underlying t=some (.slice e)
 hi:(P.info? e).map (fun i=>(i.zero,i.size,i.bytes))=some (some z,1,1)
 hzc:z.cells = #[z]
 hzf:flat1 z=true
theorem ByteT.info {P:Program} {t e:TypeId} {z:Value} (h:ByteT P t e z) : ∃ info,P.info? e=some info∧info.zero=some z∧info.size=1∧info.bytes=1:=by
 have:=h.hi
 cases hi:P.info? e with
 | none=>rw [hi] at this;simp at this
 | some i =>
  rw [hi] at this
  simp only [Option.map_some,Option.some.injEq,Prod.mk.injEq] at this
  exact ⟨i,rfl,this.1,this.2.1,this.2.2⟩
structure Sv where
 x:Option Addr
 n:Nat
 c:Nat
def Sv.val (v:Sv):Value := .slice v.x v.n v.c
def ahead (P:Program) (X:Cx) (c:Code) (pre:List Nat) (s:Act × Mem):Act × Mem :=
 seqS P X (rOps c) s.2.length pre (s.1,s.2 ++ List.replicate ((rOps c).toList.filter makes).length none)
def behind (P:Program) (X:Cx) (c:Code) (pre post:List Nat) (ds k:Nat) (s:Act × Mem) (b cap:Nat):Act :=
 (seqS P X (rOps c) s.2.length post ((ahead P X c pre s).1.put (some ds) (.slice (some ⟨b,0,none⟩) k cap),[])).1
theorem SWn.appR {n0:Nat} {c:Code} {pre post:List Nat} {i ds:Nat} {sx xx:Operand} {t tx e:TypeId} {z:Value}
  (hX:X.Ok P) (hgl:X.gl=gl) (hT:ByteT P t e z) (hc:c = .region (rId c) (rOps c) false) (hrange:List.range (rOps c).size=pre ++ (i :: (post ++ [])))
  (hop:((rOps c)[i]?).map (fun o=>(o.guard,o.op,o.dst))=some (none,.call { callee := .builtin .append,args := #[sx,xx],argTypes := #[t,tx] },some ds))
  {s:Act × Mem} {ps:List Prop} (h1:sseq P X (rOps c) s.2.length pre [] (s.1,s.2 ++ List.replicate ((rOps c).toList.filter makes).length none)=some (ps,ahead P X c pre s)) (hp : ∀ p ∈ ps,p)
  {y news cells:List Value} {k cap n j d:Nat} {F:List Nat} {A1:Nat→Act} {mb:Mem} (hk:y.length=k)
  (hsx:okX gl (ahead P X c pre s).1.eval sx=true) (hxx:okX gl (ahead P X c pre s).1.eval xx=true) (hown:(ahead P X c pre s).1.eval sx = .slice (some ⟨j,0,none⟩) k cap) (hrow:OwnRow y cap cells) (hb:getB (ahead P X c pre s).2 j=some ⟨cells,⟨e,(0,0)⟩⟩)
  (hsrc:SrcS H P tx (ahead P X c pre s).2 ((ahead P X c pre s).1.eval xx) n news) (hn:news.length=n) (hsize:k+n≤140737488355328)
  (hpost : ∀ b' cap' m',sseq P X (rOps c) s.2.length post [] ((ahead P X c pre s).1.put (some ds) (.slice (some ⟨b',0,none⟩) (k+n) cap'),m')=some ([],(behind P X c pre post ds (k+n) s b' cap',m')))
  (h21 : ∀ b' cap',(forgetL (behind P X c pre post ds (k+n) s b' cap') F).eval (.tmp d) = .slice (some ⟨b',0,none⟩) (k+n) cap')
  (h22 : ∀ b' cap',decide (d<(forgetL (behind P X c pre post ds (k+n) s b' cap') F).tmps.size)=true)
  (h23 : ∀ b' cap',(forgetL (behind P X c pre post ds (k+n) s b' cap') F).put (some d) (.slice (some ⟨j,0,none⟩) (k+n) cap')=A1 cap')
  (h24 : ∀ b' cap',fixAll mb j d (forgetL (behind P X c pre post ds (k+n) s b' cap') F)=true)
  (hmb:(ahead P X c pre s).2.take j=mb) (hkeep:memR mb=true) (hlow : ∀ r₀ w₀,H r₀ w₀→Low n0 r₀) (hn0:n0≤j) (hglj : ∀ g ∈ gl,g<j∧(getB mb g).isSome=true) :
  SWn H P gl c s (thenS (fun s' => ∃ cap' cells',OwnRow (y ++ news) cap' cells'∧Into H P gl (A1 cap',mb ++ [some ⟨cells',⟨e,(0,0)⟩⟩]) s') Q):=by
 subst hk
 obtain ⟨info,hi,hz,hsz,hby⟩:=hT.info
 cases ho:(rOps c)[i]? with
 | none=>rw [ho] at hop;simp at hop
 | some o =>
  rw [ho] at hop
  simp only [Option.map_some,Option.some.injEq,Prod.mk.injEq] at hop
  obtain ⟨o1,o2,o3⟩:=hop
  rw [hc]
  exact SWn.app (n0:=n0) (h0:=s.2.length) (s1:=ahead P X c pre s) (A2:=behind P X c pre post ds (y.length+n) s) hX hgl ho o1 o2 hT.ht hi hz hsz hby hT.hzc hT.hzf (fun Q' hq=>by rw [hrange,List.append_nil];exact SWL.steps hX hgl hp hq pre [] _ h1) hsx hxx hown hrow hb hsrc hn hsize (fun b' cap' m'=>by rw [o3];exact hpost b' cap' m') (fun b' cap'=>⟨h21 b' cap',of_decide_eq_true (h22 b' cap'),h23 b' cap',h24 b' cap'⟩) hmb hkeep hlow hn0 hglj
def behindG (P:Program) (X:Cx) (c:Code) (h0:Nat) (post:List Nat) (ds k:Nat) (s1:Act × Mem) (b cap:Nat):Act :=
 (seqS P X (rOps c) h0 post (s1.1.put (some ds) (.slice (some ⟨b,0,none⟩) k cap),[])).1
theorem SWn.appG {n0:Nat} {c:Code} {post:List Nat} {i ds h0:Nat} {sx xx:Operand} {t tx e:TypeId} {z:Value}
  (hX:X.Ok P) (hgl:X.gl=gl) (hT:ByteT P t e z) (hc:c = .region (rId c) (rOps c) false)
  (hop:((rOps c)[i]?).map (fun o=>(o.guard,o.op,o.dst))=some (none,.call { callee := .builtin .append,args := #[sx,xx],argTypes := #[t,tx] },some ds))
  {s s1:Act × Mem} (hpre : ∀ Q',SWL H P gl (rOps c) (i :: post) s1 Q'→SWL H P gl (rOps c) (List.range (rOps c).size) (s.1,s.2 ++ List.replicate ((rOps c).toList.filter makes).length none) Q')
  {y news cells:List Value} {k cap n j d:Nat} {F:List Nat} {A1:Nat→Act} {mb:Mem} (hk:y.length=k)
  (hsx:okX gl s1.1.eval sx=true) (hxx:okX gl s1.1.eval xx=true) (hown:s1.1.eval sx = .slice (some ⟨j,0,none⟩) k cap) (hrow:OwnRow y cap cells) (hb:getB s1.2 j=some ⟨cells,⟨e,(0,0)⟩⟩)
  (hsrc:SrcS H P tx s1.2 (s1.1.eval xx) n news) (hn:news.length=n) (hsize:k+n≤140737488355328)
  (hpost : ∀ b' cap' m',sseq P X (rOps c) h0 post [] (s1.1.put (some ds) (.slice (some ⟨b',0,none⟩) (k+n) cap'),m')=some ([],(behindG P X c h0 post ds (k+n) s1 b' cap',m')))
  (h21 : ∀ b' cap',(forgetL (behindG P X c h0 post ds (k+n) s1 b' cap') F).eval (.tmp d) = .slice (some ⟨b',0,none⟩) (k+n) cap')
  (h22 : ∀ b' cap',decide (d<(forgetL (behindG P X c h0 post ds (k+n) s1 b' cap') F).tmps.size)=true)
  (h23 : ∀ b' cap',(forgetL (behindG P X c h0 post ds (k+n) s1 b' cap') F).put (some d) (.slice (some ⟨j,0,none⟩) (k+n) cap')=A1 cap')
  (h24 : ∀ b' cap',fixAll mb j d (forgetL (behindG P X c h0 post ds (k+n) s1 b' cap') F)=true)
  (hmb:s1.2.take j=mb) (hkeep:memR mb=true) (hlow : ∀ r₀ w₀,H r₀ w₀→Low n0 r₀) (hn0:n0≤j) (hglj : ∀ g ∈ gl,g<j∧(getB mb g).isSome=true) :
  SWn H P gl c s (thenS (fun s' => ∃ cap' cells',OwnRow (y ++ news) cap' cells'∧Into H P gl (A1 cap',mb ++ [some ⟨cells',⟨e,(0,0)⟩⟩]) s') Q):=by
 subst hk
 obtain ⟨info,hi,hz,hsz,hby⟩:=hT.info
 cases ho:(rOps c)[i]? with
 | none=>rw [ho] at hop;simp at hop
 | some o =>
  rw [ho] at hop
  simp only [Option.map_some,Option.some.injEq,Prod.mk.injEq] at hop
  obtain ⟨o1,o2,o3⟩:=hop
  rw [hc]
  exact SWn.app (n0:=n0) (h0:=h0) (s1:=s1) (A2:=behindG P X c h0 post ds (y.length+n) s1) hX hgl ho o1 o2 hT.ht hi hz hsz hby hT.hzc hT.hzf hpre hsx hxx hown hrow hb hsrc hn hsize (fun b' cap' m'=>by rw [o3];exact hpost b' cap' m') (fun b' cap'=>⟨h21 b' cap',of_decide_eq_true (h22 b' cap'),h23 b' cap',h24 b' cap'⟩) hmb hkeep hlow hn0 hglj
theorem SWn.appG0 {n0:Nat} {c:Code} {post:List Nat} {i ds h0:Nat} {sx xx:Operand} {t tx e:TypeId} {z:Value}
  (hX:X.Ok P) (hgl:X.gl=gl) (hT:ByteT P t e z) (hc:c = .region (rId c) (rOps c) false)
  (hop:((rOps c)[i]?).map (fun o=>(o.guard,o.op,o.dst))=some (none,.call { callee := .builtin .append,args := #[sx,xx],argTypes := #[t,tx] },some ds))
  {s s1:Act × Mem} (hpre : ∀ Q',SWL H P gl (rOps c) (i :: post) s1 Q'→SWL H P gl (rOps c) (List.range (rOps c).size) (s.1,s.2 ++ List.replicate ((rOps c).toList.filter makes).length none) Q')
  {news:List Value} {n j d:Nat} {F:List Nat} {A1:Nat→Act} {mb:Mem}
  (hsx:okX gl s1.1.eval sx=true) (hxx:okX gl s1.1.eval xx=true) (hown:s1.1.eval sx = .slice none 0 0)
  (hsrc:SrcS H P tx s1.2 (s1.1.eval xx) n news) (hn:news.length=n) (hpos:0<n) (hsize:n≤140737488355328)
  (hpost : ∀ b' cap' m',sseq P X (rOps c) h0 post [] (s1.1.put (some ds) (.slice (some ⟨b',0,none⟩) n cap'),m')=some ([],(behindG P X c h0 post ds n s1 b' cap',m')))
  (h21 : ∀ b' cap',(forgetL (behindG P X c h0 post ds n s1 b' cap') F).eval (.tmp d) = .slice (some ⟨b',0,none⟩) n cap')
  (h22 : ∀ b' cap',decide (d<(forgetL (behindG P X c h0 post ds n s1 b' cap') F).tmps.size)=true)
  (h23 : ∀ b' cap',(forgetL (behindG P X c h0 post ds n s1 b' cap') F).put (some d) (.slice (some ⟨j,0,none⟩) n cap')=A1 cap')
  (h24 : ∀ b' cap',fixAll mb j d (forgetL (behindG P X c h0 post ds n s1 b' cap') F)=true)
  (hj:j≤s1.2.length) (hmb:s1.2.take j=mb) (hkeep:memR mb=true) (hlow : ∀ r₀ w₀,H r₀ w₀→Low n0 r₀) (hn0:n0≤j) (hglj : ∀ g ∈ gl,g<j∧(getB mb g).isSome=true) :
  SWn H P gl c s (thenS (fun s' => ∃ cap' cells',OwnRow news cap' cells'∧Into H P gl (A1 cap',mb ++ [some ⟨cells',⟨e,(0,0)⟩⟩]) s') Q):=by
 obtain ⟨info,hi,hz,hsz,hby⟩:=hT.info
 cases ho:(rOps c)[i]? with
 | none=>rw [ho] at hop;simp at hop
 | some o =>
  rw [ho] at hop
  simp only [Option.map_some,Option.some.injEq,Prod.mk.injEq] at hop
  obtain ⟨o1,o2,o3⟩:=hop
  rw [hc]
  exact SWn.app0 (n0:=n0) (h0:=h0) (s1:=s1) (A2:=behindG P X c h0 post ds n s1) hX hgl ho o1 o2 hT.ht hi hz hsz hby hT.hzc hT.hzf hpre hsx hxx hown hsrc hn hpos hsize (fun b' cap' m'=>by rw [o3];exact hpost b' cap' m') (fun b' cap'=>⟨h21 b' cap',of_decide_eq_true (h22 b' cap'),h23 b' cap',h24 b' cap'⟩) hj hmb hkeep hlow hn0 hglj
theorem sload_one {t b o:Nat} {m:Mem} {B:Blk} {v:Value} (hB:getB m b=some B) (hT:(rowT P t).map Prod.fst=some false) (hv:B.cells[o]? = some v):sload P t b o m=some v:=by
 unfold sload
 rw [hB]
 cases h:rowT P t with
 | none=>rw [h] at hT;simp at hT
 | some q =>
  obtain ⟨x,n⟩:=q
  rw [h] at hT
  simp only [Option.map_some,Option.some.injEq] at hT
  subst hT
  exact hv
theorem SWL.loadR {c:Code} {s:Act × Mem} {l:List Nat} {i d:Nat} {t:TypeId} {x:Operand} {b k:Nat} {v:Value} (ho:((rOps c)[i]?).map (fun o=>(o.guard,o.op,o.dst))=some (none,.load t x,some d)) (hx:okX gl s.1.eval x=true) (he:s.1.eval x = .pointer (some ⟨b,k,none⟩)) (hl:sload P t b k s.2=some v)
  (h:SWL H P gl (rOps c) l (s.1.put (some d) v,s.2) Q):SWL H P gl (rOps c) (i :: l) s Q:=by
 cases hoi:(rOps c)[i]? with
 | none=>rw [hoi] at ho;simp at ho
 | some o =>
  rw [hoi] at ho
  simp only [Option.map_some,Option.some.injEq,Prod.mk.injEq] at ho
  obtain ⟨o1,o2,o3⟩:=ho
  exact SWL.load hoi o1 o2 hx he hl (by rw [o3];exact h)
theorem forget_into (l:List Nat) {s t:Act × Mem} (h:(forgetL s.1 l,s.2)=t):Into H P gl t s:=fun c Q hq=>by
 obtain ⟨a,m⟩:=s
 exact SWn.forget l (by rw [show (forgetL a l,m)=t from h];exact hq)
theorem thenS_only {N:Act × Mem→Prop} {e:Exit} {s:Act × Mem} (h:thenS N (fun _ _=>False) e s):e = .normal∧N s:=by
 cases e <;> first | exact ⟨rfl,h⟩ | exact h.elim
end Go.Proofs.YtlihbglpdkeppaaGreatDoor
namespace Go.Proofs.YtlihbglpdkeppaaGreatDoor
open Go Go.RowKit
variable {H:Ren→World→Prop} {gl:List Nat} {r₀ r:Ren} {w₀ w:World} {P:Program} {X:Cx} {Q:Exit→Act × Mem→Prop}
def OkH (X:Cx) (P:Program) (H:Ren→World→Prop):Prop := ∀ r₀ w₀,H r₀ w₀→X.OkF P r₀ w₀
theorem Cx.Ok.h (h:X.Ok P):OkH X P H:=fun _ _ _=>h.f
theorem OkH.terms (h:OkH X P H):OkH X.terms P H:=fun r₀ w₀ hH=>⟨(h r₀ w₀ hH).wcall,(h r₀ w₀ hH).call,(h r₀ w₀ hH).pure,(h r₀ w₀ hH).more⟩
theorem OkH.tell (h:OkH X P H) (d:List (Nat × Bool)):OkH (X.tell d) P H:=fun r₀ w₀ hH=>⟨(h r₀ w₀ hH).wcall,(h r₀ w₀ hH).call,(h r₀ w₀ hH).pure,(h r₀ w₀ hH).more⟩
theorem OkH.read (hX:OkH X P H) {f:FuncId} {g:List Value→Mem→Option (List Prop × Value)}
  (h : ∀ r₀ w₀,H r₀ w₀ → ∀ args m ps v,g args m=some (ps,v)→(∀ p ∈ ps,p) → ∀ r w args',Rel r m w→Fr r₀ w₀ w→(∀ b c,r b=some c→r₀ b=some c∨w₀.heap.size≤c)→(∀ g ∈ X.gl,r g=some g)→trL (tr r) args=some args'→CallOK P f args'.toArray w fun v' w'=>tr r v=some v'∧Below w.heap.size w w')
  (hmore : ∀ args (m:Mem) q i B,m[i]? = some none→g args m=some q→g args (m.set i (some B))=some q):OkH (X.read f g) P H:=by
 intro r₀ w₀ hH
 have hX:=hX r₀ w₀ hH
 refine ⟨hX.wcall,fun k args m ps v hc hp r w args' hr hf he hgl ha => ?_,fun k hk args m m' => ?_,fun k args m q i B hi hc => ?_⟩
 ·simp only [Cx.read] at hc
  split at hc
  ·rename_i e;subst e;exact h r₀ w₀ hH args m ps v hc hp r w args' hr hf he hgl ha
  ·exact hX.call k args m ps v hc hp r w args' hr hf he hgl ha
 ·simp only [Cx.read,Bool.and_eq_true,Bool.not_eq_true',beq_eq_false_iff_ne] at hk ⊢
  rw [if_neg hk.1,if_neg hk.1]
  exact hX.pure k hk.2 args m m'
 ·simp only [Cx.read] at hc ⊢
  split at hc
  ·rename_i e;rw [if_pos e];exact hmore _ _ _ _ _ hi hc
  ·rename_i e;rw [if_neg e];exact hX.more k args m q i B hi hc
theorem SWn.regionH (hX:OkH X P H) (hm:P.follows .mixedOrders=true) {id:Nat} {ops:Array Oper} {draw:Bool} {rs:List Prop} {s out:Act × Mem} (h:sregion P X ops draw s=some (rs,out)) (hrs : ∀ p ∈ rs,p) (hq:Q .normal out):SWn H P X.gl (.region id ops draw) s Q :=
 fun r₀ w₀ _ _ _ hH S=>region_wp (hX r₀ w₀ hH) hm h hrs S fun A w r S'=>⟨out,r,hq,S'⟩
theorem sexec_soundH (hX:OkH X P H) (hm:P.follows .mixedOrders=true) {rs:List Prop} (hrs : ∀ p ∈ rs,p) : ∀ (n:Nat) (c:Code) (qs ts:List Prop) (s:Act × Mem) (e:Exit) (s':Act × Mem),sexec P X n c qs s=some (ts,e,s')→(∀ p ∈ ts,p ∈ rs)→SWn H P X.gl c s (fun e' s''=>e'=e∧s''=s'):=by
 intro n
 induction n using Nat.strongRecOn with
 | _ n ih =>
  intro c qs ts s e s' h hts
  cases n with
  | zero=>simp [sexec] at h
  | succ n =>
   unfold sexec at h
   split at h
   ·simp only [Option.some.injEq,Prod.mk.injEq] at h;obtain ⟨_,rfl,rfl⟩:=h;exact SW.n (SW.skip ⟨rfl,rfl⟩)
   ·simp only [Option.some.injEq,Prod.mk.injEq] at h;obtain ⟨_,rfl,rfl⟩:=h;exact SW.n (SW.label ⟨rfl,rfl⟩)
   ·split at h
    ·rename_i hr
     simp only [Option.some.injEq,Prod.mk.injEq] at h;obtain ⟨rfl,rfl,rfl⟩:=h;exact SWn.regionH hX hm hr (fun p hp=>hrs p (hts p (by simp [hp]))) ⟨rfl,rfl⟩
    ·simp at h
   ·split at h
    ·rename_i q1 s1 h1
     refine SWn.seq ((ih n (by omega) _ _ _ s _ _ h1 (fun p hp=>hts p (sexec_ob _ _ _ _ _ _ _ h p hp))).mono ?_)
     rintro e1 s2 ⟨rfl,rfl⟩
     exact ih n (by omega) _ _ _ _ _ _ h hts
    ·rename_i hn
     refine SWn.seq ((ih n (by omega) _ _ _ s _ _ h hts).mono ?_)
     rintro e1 s2 ⟨rfl,rfl⟩
     cases e1 with
     | normal=>exact absurd h (hn _ _)
     | _=>exact ⟨rfl,rfl⟩
   ·split at h
    ·rename_i hok
     split at h
     ·rename_i he;exact SWn.cond hok he (ih n (by omega) _ _ _ s _ _ h hts)
     ·rename_i he;exact SWn.cond hok he (ih n (by omega) _ _ _ s _ _ h hts)
     ·simp at h
    ·simp at h
   ·split at h
    ·rename_i q1 k s1 h1
     have hq1 : ∀ p ∈ q1,p ∈ rs:=by
      intro p hp
      split at h
      ·simp only [Option.some.injEq,Prod.mk.injEq] at h;exact hts p (by rw [←h.1];exact hp)
      ·simp only [Option.some.injEq,Prod.mk.injEq] at h;exact hts p (by rw [←h.1];exact hp)
     refine SWn.block ((ih n (by omega) _ _ _ s _ _ h1 hq1).mono ?_)
     rintro e1 s2 ⟨rfl,rfl⟩
     simp only [blockS]
     split at h
     ·rename_i hk;rw [if_pos hk];simp only [Option.some.injEq,Prod.mk.injEq] at h;exact ⟨h.2.1,h.2.2⟩
     ·rename_i hk;rw [if_neg hk];simp only [Option.some.injEq,Prod.mk.injEq] at h;exact ⟨h.2.1,h.2.2⟩
    ·rename_i hn
     refine SWn.block ((ih n (by omega) _ _ _ s _ _ h hts).mono ?_)
     rintro e1 s2 ⟨rfl,rfl⟩
     cases e1 with
     | exit k=>exact absurd h (hn _ _ _)
     | _=>exact ⟨rfl,rfl⟩
   ·rename_i b
    have h':sexec P X (n+1) (.loop b) qs s=some (ts,e,s'):=by unfold sexec;exact h
    refine SWn.loop (fun k s=>k≤n+1 ∧ ∃ qs,sexec P X k (.loop b) qs s=some (ts,e,s')) (n+1) ⟨Nat.le_refl _,qs,h'⟩ ?_
    rintro k s ⟨hk,qs,hs⟩
    cases k with
    | zero=>simp [sexec] at hs
    | succ k =>
     unfold sexec at hs
     simp only at hs
     split at hs
     ·rename_i q1 s1 h1
      refine (ih k (by omega) _ _ _ s _ _ h1 (fun p hp=>hts p (sexec_ob _ _ _ _ _ _ _ hs p hp))).mono ?_
      rintro e1 s2 ⟨rfl,rfl⟩
      exact ⟨k,by omega,by omega,_,hs⟩
     ·rename_i hn
      refine (ih k (by omega) _ _ _ s _ _ hs hts).mono ?_
      rintro e1 s2 ⟨rfl,rfl⟩
      cases e1 with
      | normal=>exact absurd hs (hn _ _)
      | _=>exact ⟨rfl,rfl⟩
   ·simp only [Option.some.injEq,Prod.mk.injEq] at h;obtain ⟨_,rfl,rfl⟩:=h;exact SW.n (SW.exit ⟨rfl,rfl⟩)
   ·simp only [Option.some.injEq,Prod.mk.injEq] at h;obtain ⟨_,rfl,rfl⟩:=h;exact SW.n (SW.ret ⟨rfl,rfl⟩)
   ·simp at h
theorem SWn.runH (hX:OkH X P H) (hm:P.follows .mixedOrders=true) (hg:X.gl=gl) {c:Code} {s s':Act × Mem} {e:Exit} {ps:List Prop} (n:Nat) (h:sexec P X n c [] s=some (ps,e,s')) (hp : ∀ p ∈ ps,p) (hq:Q e s'):SWn H P gl c s Q:=by
 subst hg
 exact (sexec_soundH hX hm hp n c [] ps s e s' h (fun _ h=>h)).mono (by rintro e1 s1 ⟨rfl,rfl⟩;exact hq)
theorem sexecLH_sound (hX:OkH X P H) (hm:P.follows .mixedOrders=true) {n:Nat} {rest:Code} {rs:List Prop} (hrs : ∀ p ∈ rs,p) : ∀ (cs:List Code) (qs:List Prop) (s s':Act × Mem),sexecL P X n cs qs s=some (rs,s')→SWn H P X.gl rest s' Q→SWn H P X.gl (seqs cs rest) s Q
 | [],qs,s,s',h,hq=>by simp only [sexecL,Option.some.injEq,Prod.mk.injEq] at h;rw [h.2];exact hq
 | c :: cs,qs,s,s',h,hq=>by
  simp only [sexecL] at h
  split at h
  ·rename_i q1 s1 h1
   refine SWn.seq ((sexec_soundH hX hm hrs n c qs _ s _ _ h1 (sexecL_ob cs _ _ _ _ h)).mono ?_)
   rintro e s2 ⟨rfl,rfl⟩
   exact sexecLH_sound hX hm hrs cs _ _ _ h hq
  ·simp at h
theorem SWn.preH (hX:OkH X P H) (hm:P.follows .mixedOrders=true) (hg:X.gl=gl) {n:Nat} {c rest:Code} {cs:List Code} {s s':Act × Mem} {ps:List Prop} (hc:c=seqs cs rest) (h:sexecL P X n cs [] s=some (ps,s')) (hp : ∀ p ∈ ps,p) (hq:SWn H P gl rest s' Q):SWn H P gl c s Q:=by
 subst hg;rw [hc];exact sexecLH_sound hX hm hp cs [] s s' h hq
def SWA (H:Ren→World→Prop) (P:Program) (gl:List Nat) (ops:Array Oper) (n:Nat) (listed:Array Bool) (s:Act × Mem) (Q:Exit→Act × Mem→Prop):Prop :=
 ∀ r₀ w₀ A w r,H r₀ w₀→Sim gl r₀ w₀ s.1 s.2 A w r→wpAny P .any ops (fun e A' w' => ∃ s' r',Q e s'∧Sim gl r₀ w₀ s'.1 s'.2 A' w' r') n listed A w
variable {ops:Array Oper} {s:Act × Mem} {n:Nat} {listed:Array Bool}
theorem SWn.regionA (hm:P.follows .mixedOrders=true) {id:Nat} (h:SWA H P gl ops ops.size (Array.replicate ops.size false) (s.1,s.2 ++ List.replicate (ops.toList.filter makes).length none) Q):SWn H P gl (.region id ops true) s Q :=
 fun r₀ w₀ A w r hH S=>wp_region_any hm (h r₀ w₀ A _ r hH ((S.reserve _).draw))
theorem SWA.nil (hr:Region.ready .any ops listed = []) (h:Q .normal s):SWA H P gl ops 0 listed s Q:=fun r₀ w₀ A w r _ S=>⟨hr,s,r,h,S⟩
def SWO (H:Ren→World→Prop) (P:Program) (gl:List Nat) (ops:Array Oper) (n:Nat) (listed:Array Bool) (i:Nat) (s:Act × Mem) (Q:Exit→Act × Mem→Prop):Prop :=
 ∀ r₀ w₀ A w r,H r₀ w₀→Sim gl r₀ w₀ s.1 s.2 A w r→wpOp P ops (fun e A' w' => ∃ s' r',Q e s'∧Sim gl r₀ w₀ s'.1 s'.2 A' w' r') i (wpAny P .any ops (fun e A' w' => ∃ s' r',Q e s'∧Sim gl r₀ w₀ s'.1 s'.2 A' w' r') n (listed.setIfInBounds i true)) A w
theorem SWA.one {i:Nat} (hr:Region.ready .any ops listed = [i]) (h:SWO H P gl ops n listed i s Q):SWA H P gl ops (n+1) listed s Q :=
 fun r₀ w₀ A w r hH S=>⟨fun e=>(by rw [hr] at e;cases e),fun j hj=>by rw [hr] at hj;rw [List.mem_singleton.1 hj];exact h r₀ w₀ A w r hH S⟩
theorem SWA.two {i j:Nat} (hr:Region.ready .any ops listed = [i,j]) (h:SWO H P gl ops n listed i s Q) (h':SWO H P gl ops n listed j s Q):SWA H P gl ops (n+1) listed s Q :=
 fun r₀ w₀ A w r hH S=>⟨fun e=>(by rw [hr] at e;cases e),fun k hk=>by
  rw [hr] at hk
  simp only [List.mem_cons,List.not_mem_nil,or_false] at hk
  rcases hk with rfl | rfl
  ·exact h r₀ w₀ A w r hH S
  ·exact h' r₀ w₀ A w r hH S⟩
theorem SWO.step (hX:OkH X P H) (hg:X.gl=gl) {h0 i:Nat} {ps:List Prop} {s':Act × Mem} (h:sstep P X ops h0 i s=some (ps,s')) (hp : ∀ p ∈ ps,p) (hq:SWA H P gl ops n (listed.setIfInBounds i true) s' Q):SWO H P gl ops n listed i s Q:=by
 subst hg
 intro r₀ w₀ A w r hH S
 exact step_wp (hX r₀ w₀ hH) h hp S (fun A' w' r' S'=>hq r₀ w₀ A' w' r' hH S')
theorem SWO.callN {i d:Nat} {f:FuncId} {args:Array Operand} {ts:Array TypeId} {k:Nat} {e:TypeId} {R:Nat→List Value→Prop}
  (ho:(ops[i]?).map (fun o=>(o.guard,o.op,o.dst))=some (none,.call ⟨.value (.func f),args,ts⟩,some d))
  (hcall : ∀ r₀ w₀ A w r,H r₀ w₀→Sim gl r₀ w₀ s.1 s.2 A w r→CallOK P f (args.map A.eval) w fun v' w' => ∃ c cap q,v' = .slice (some ⟨c,0,none⟩) k cap∧w.heap.size≤c∧w'.heap[c]? = some (.cells q.toArray e (0,0))∧q.all flat1=true∧R cap q∧Below w.heap.size w w')
  (h : ∀ cap q,q.all flat1=true→R cap q→SWA H P gl ops n (listed.setIfInBounds i true) (s.1.put (some d) (.slice (some ⟨s.2.length,0,none⟩) k cap),s.2 ++ [some ⟨q,⟨e,(0,0)⟩⟩]) Q):SWO H P gl ops n listed i s Q:=by
 intro r₀ w₀ A w r hH S
 cases hoi:ops[i]? with
 | none=>rw [hoi] at ho;simp at ho
 | some o =>
  rw [hoi] at ho
  simp only [Option.map_some,Option.some.injEq,Prod.mk.injEq] at ho
  obtain ⟨o1,o2,o3⟩:=ho
  unfold wpOp
  simp only [hoi]
  have hw:Region.wanted o (yielded ops A.tmps)=true:=by unfold Region.wanted;rw [o1]
  rw [if_pos hw]
  refine .inl ?_
  have hrun:(execOp A.eval o).run P w=(callFunc f (args.map A.eval)).run P w:=by
   simp [execOp,o2,resolve,Act.eval,Deferred.ofValue,invoke]
  have key : ∀ v' w',(∃ c cap q,v' = .slice (some ⟨c,0,none⟩) k cap∧w.heap.size≤c∧w'.heap[c]? = some (.cells q.toArray e (0,0))∧q.all flat1=true∧R cap q∧Below w.heap.size w w')→wpAny P .any ops (fun e A' w' => ∃ s' r',Q e s'∧Sim gl r₀ w₀ s'.1 s'.2 A' w' r') n (listed.setIfInBounds i true) (A.put o.dst v') w':=by
   rintro v' w' ⟨c,cap,q,rfl,hc,hcell,hq,hR,hbel⟩
   have hR1:=S.rel.below hbel
   have hn:r s.2.length=none:=by
    cases hr:r s.2.length with
    | none=>rfl
    | some x =>
     obtain ⟨B,hB⟩:=S.rel.full _ _ hr
     have:=getB_lt hB
     omega
   have hle:=le_upd (c:=c) hn
   have hrel:Rel (upd r s.2.length c) (s.2 ++ [some ⟨q,⟨e,(0,0)⟩⟩]) w':=by
    refine ⟨fun b B hB => ?_,fun b x hx => ?_,fun b b' x h1 h2 => ?_⟩
    ·rw [getB_snoc] at hB
     split at hB
     ·rename_i eb
      cases hB
      exact ⟨c,q,by simp [upd,eb],trL_all (tr1_flat _) hq,hcell⟩
     ·obtain ⟨c',cs,p1,p2,p3⟩:=hR1.cells b B hB
      exact ⟨c',cs,hle _ _ p1,trL_mono (tr1_more hle) p2,p3⟩
    ·rw [getB_snoc]
     unfold upd at hx
     split at hx
     ·rename_i eb;rw [if_pos eb];exact ⟨_,rfl⟩
     ·rename_i eb;rw [if_neg eb];exact hR1.full b x hx
    ·unfold upd at h1 h2
     split at h1 <;> split at h2
     ·rename_i e1 e2;rw [e1,e2]
     ·cases h1;have:=S.rel.lt h2;omega
     ·cases h2;have:=S.rel.lt h1;omega
     ·exact S.rel.inj b b' x h1 h2
   have S':=S.put (v := .slice (some ⟨s.2.length,0,none⟩) k cap) hrel hle (fun b x hx=>by
    unfold upd at hx
    split at hx
    ·cases hx;exact .inr (by have:=S.fr.size;omega)
    ·exact .inl hx) (fr_below S.fr hbel) (v' := .slice (some ⟨c,0,none⟩) k cap) (tr_of_slice (by simp [upd])) o.dst
   rw [o3] at S' ⊢
   exact h cap q hq hR r₀ w₀ _ _ _ hH S'
  unfold Oper.wp
  rw [hrun]
  rcases hcall r₀ w₀ A w r hH S with ⟨v',w',h1,h2⟩ | ⟨h1,h2⟩
  ·rw [h1];exact key v' w' h2
  ·rw [h1]
   refine Calls.mono h2 ?_
   rintro e' w' ⟨v',rfl,h3⟩
   exact key v' w' h3
theorem SWL.stepsH (hX:OkH X P H) (hg:X.gl=gl) {h0:Nat} {ps:List Prop} {s':Act × Mem} (hp : ∀ p ∈ ps,p) {l2:List Nat} (hq:SWL H P gl ops l2 s' Q) : ∀ (l:List Nat) (qs:List Prop) (s:Act × Mem),sseq P X ops h0 l qs s=some (ps,s')→SWL H P gl ops (l ++ l2) s Q:=by
 subst hg
 intro l
 induction l with
 | nil =>
  intro qs s h
  simp only [sseq,Option.some.injEq,Prod.mk.injEq] at h
  obtain ⟨_,rfl⟩:=h
  exact hq
 | cons i l ih =>
  intro qs s h r₀ w₀ A w r hH S
  rw [List.cons_append,wpOps_cons]
  simp only [sseq] at h
  split at h
  ·rename_i ps1 s1 hs
   exact step_wp (hX r₀ w₀ hH) hs (fun p hq=>hp p (sseq_ob l _ _ h p (by simp [hq]))) S (fun A' w' r' S'=>ih _ s1 h r₀ w₀ A' w' r' hH S')
  ·simp at h
end Go.Proofs.YtlihbglpdkeppaaGreatDoor
namespace Go.Proofs.YtlihbglpdkeppaaGreatDoor
open Go Go.RowKit
variable {H:Ren→World→Prop} {gl:List Nat} {r₀ r:Ren} {w₀ w:World} {P:Program} {X:Cx} {Q:Exit→Act × Mem→Prop} {ops:Array Oper} {s:Act × Mem} {n:Nat} {listed:Array Bool}
theorem append_step {N:Act × Mem→Prop} {s:Act × Mem} {o:Oper} {sx xx:Operand} {t tx e:TypeId} {info:TypeInfo} {z:Value} (hop:o.op = .call { callee := .builtin .append,args := #[sx,xx],argTypes := #[t,tx] })
  (ht:P.underlying t=some (.slice e)) (hi:P.info? e=some info) (hz:info.zero=some z) (hsz:info.size=1) (hby:info.bytes=1) (hzc:z.cells = #[z]) (hzf:flat1 z=true)
  {k cap n:Nat} {cells news:List Value} {ty:TypeId} {bo:Option Nat}
  (hsx:okX gl s.1.eval sx=true) (hxx:okX gl s.1.eval xx=true) (hown:OwnS s.2 (s.1.eval sx) k cap cells ty bo) (hsrc:SrcS H P tx s.2 (s.1.eval xx) n news) (hsize:k+n≤140737488355328)
  (hA:bo=none→n=0→N (s.1.put o.dst (.slice none 0 0),s.2))
  (hB : ∀ b,bo=some b→k+n≤cap→N (s.1.put o.dst (.slice (some ⟨b,0,none⟩) (k+n) cap),s.2.set b (some ⟨putL cells k news,ty⟩)))
  (hC:cap<k+n → ∀ c,k+n≤c→N (s.1.put o.dst (.slice (some ⟨s.2.length,0,none⟩) (k+n) c),s.2 ++ [some ⟨cells.take k ++ news ++ List.replicate (c - (k+n)) z,e⟩])) :
  ∀ r₀ w₀ A w r,H r₀ w₀→Sim gl r₀ w₀ s.1 s.2 A w r → ∃ v w' s' r',(execOp A.eval o).run P w = .ok (.value v) w'∧Sim gl r₀ w₀ s'.1 s'.2 (A.put o.dst v) w' r'∧N s':=by
 intro r₀ w₀ A w r hH S
 obtain ⟨a,m⟩:=s
 simp only at *
 have vs:=S.eval hsx
 have vx:=S.eval hxx
 have src:=hsrc.2 r₀ w₀ w r hH S.fr S.rel _ vx
 have hx : ∀ s' x':Value,A.eval sx=s'→A.eval xx=x'→(execOp A.eval o).run P w=((Builtin.append_ #[t,tx] o.type #[s',x']).run P w).andThen (fun v w' => .ok (.value v) w'):=by
  intro s' x' h1 h2
  subst h1;subst h2
  simp only [execOp,hop,resolve,invoke,builtin,Sem.run_bind,Sem.run_pure,Result.andThen_ok]
  first | rfl | (simp [Sem.run_bind];done)
 generalize hsv:a.eval sx=sv at *
 by_cases hroom:k+n≤cap
 ·cases hown with
  | nil =>
   have hn:n=0:=by omega
   subst hn
   have hs':A.eval sx = .slice none 0 0:=by simp [tr,tr2,tr1,flat1] at vs;exact vs.symm
   refine ⟨.slice none 0 0,w,_,r,?_,S.put0 (v := .slice none 0 0) (tr_flat r _ rfl) o.dst,hA rfl rfl⟩
   rw [hx _ _ hs' rfl]
   rcases src.kind with ⟨e',hk⟩ | hk <;> simp [Builtin.append_,run_underlying ht,run_underlying hk,sizeOf,typeInfo,hi,src.len,src.cells,hsz]
  | row b _ _ _ _ hb hc hk =>
   obtain ⟨c0,hc0,hs'⟩:=tr_slice vs
   obtain ⟨c1,cs,p1,p2,p3⟩:=S.rel.cells b _ hb
   rw [hc0] at p1;cases p1
   have hlen:=trL_len p2
   simp only at hlen
   have hnl:news.length=n:=by have:=src.newsLen;omega
   have hput:putL cells k news=setL cells k news:=(setL_put _ _ _ (by omega)).symm
   have hrel:=S.rel.store hb hc0 k (trL_all (tr1_flat r) hsrc.1)
   refine ⟨.slice (some ⟨c0,0,none⟩) (k+n) cap,w.setCells c0 k news,_,r,?_,S.put (v := .slice (some ⟨b,0,none⟩) (k+n) cap) (by rw [hput];exact hrel) (Le.refl _) (fun _ _ h => .inl h) (fr_setCells S.fr (S.home hc0) _ _) (tr_of_slice hc0) o.dst,hB b rfl hroom⟩
   rw [hx _ _ hs' rfl]
   have h:=run_append_room_src (P:=P) w t tx o.type e info ht hi c0 0 k cap (A.eval xx) n news (by rw [hsz];exact src) hroom
    (fun j hj=>by
     rw [hsz]
     have:k+j<cs.length:=by omega
     simp only [World.cell?,p3,Option.isSome_none,Bool.false_eq_true,if_false,Nat.zero_add,Nat.mul_one]
     simp only [List.getElem?_toArray,List.getElem?_eq_getElem this,Option.isSome_some])
    (fun j hj=>by simp [World.frozen?,p3])
   rw [h,hsz]
   simp
 ·have hgrow:cap<k+n:=by omega
  have hnl:news.length=n:=by have:=src.newsLen;omega
  have key : ∃ (base:Option Addr) (olds:List Value),A.eval sx = .slice base k cap∧(Builtin.firstCells info.size k (.slice base k cap)).run P w.drew = .ok olds.toArray w.drew∧trL (tr1 r) (cells.take k)=some olds:=by
   cases hown with
   | nil =>
    refine ⟨none,[],by simp [tr,tr2,tr1,flat1] at vs;exact vs.symm,rfl,rfl⟩
   | row b _ _ _ _ hb hc hk =>
    obtain ⟨c0,hc0,hs'⟩:=tr_slice vs
    obtain ⟨c1,cs,p1,p2,p3⟩:=S.rel.cells b _ hb
    rw [hc0] at p1;cases p1
    have hlen:=trL_len p2
    simp only at hlen
    refine ⟨some ⟨c0,0,none⟩,cs.take k,hs',?_,trL_take k p2⟩
    refine run_firstCells_some w.drew info.size k ⟨c0,0,none⟩ k cap _ (by rw [hsz,List.length_take];omega) (fun j u hj => ?_)
    rw [List.getElem?_take] at hj
    split at hj
    ·rw [Addr.add_mid]
     show w.cell? _=_
     simp [World.cell?,p3,hj]
    ·simp at hj
  obtain ⟨base,olds,hs',hfirst,holds⟩:=key
  have h:=run_append_grow_src (P:=P) w t tx o.type e info z ht hi hz base k cap olds hfirst (A.eval xx) n news (by rw [hsz];exact src) hgrow (by omega) (growslice_fits hgrow (by rw [hby];omega))
  have hcap:=grownCap_ge w (k+n) cap e
  generalize grownCap w (k+n) cap e=c at *
  have S2:=(S.draw).reserve 1
  have hhole:(m ++ List.replicate 1 none)[m.length]? = some (none:Option Blk):=by simp
  have hcells:trL (tr1 r) (cells.take k ++ news ++ List.replicate (c - (k+n)) z)=some (olds ++ news ++ List.replicate (c - (k+n)) z):=trL_append (trL_append holds (trL_all (tr1_flat r) hsrc.1)) (trL_rep1 _ _ (tr1_flat r z hzf) _)
  have hrel:=S2.rel.alloc hhole e hcells
  have hm:(m ++ List.replicate 1 none).set m.length (some ⟨cells.take k ++ news ++ List.replicate (c - (k+n)) z,e⟩)=m ++ [some ⟨cells.take k ++ news ++ List.replicate (c - (k+n)) z,e⟩]:=by
   simp [List.replicate_one,List.set_append]
  rw [hm] at hrel
  have hn0:=S2.rel.hole hhole
  refine ⟨.slice (some ⟨w.heap.size,0,none⟩) (k+n) c,_,_,upd r m.length w.heap.size,?_,S2.put (v := .slice (some ⟨m.length,0,none⟩) (k+n) c) (v' := .slice (some ⟨w.heap.size,0,none⟩) (k+n) c) hrel (le_upd hn0) (fun b c' hc' => ?_) (fr_alloc S2.fr _) (tr_of_slice (by simp [upd])) o.dst,hC hgrow c hcap⟩
  ·rw [hx _ _ hs' rfl,h]
   simp only [Result.andThen_ok]
   have:(olds ++ news).toArray ++ Builtin.zeroCells z.cells (c - (k+n))=(olds ++ news ++ List.replicate (c - (k+n)) z).toArray:=by
    apply Array.ext'
    simp [zeroCells_one z hzc]
   rw [this];rfl
  ·unfold upd at hc'
   split at hc'
   ·cases hc';exact .inr S.fr.size
   ·exact .inl hc'
theorem SWO.op {i:Nat} {o:Oper} (ho:ops[i]? = some o) (hg:o.guard=none) (h : ∀ r₀ w₀ A w r,H r₀ w₀→Sim gl r₀ w₀ s.1 s.2 A w r → ∃ v w' s' r',(execOp A.eval o).run P w = .ok (.value v) w'∧Sim gl r₀ w₀ s'.1 s'.2 (A.put o.dst v) w' r'∧SWA H P gl ops n (listed.setIfInBounds i true) s' Q):SWO H P gl ops n listed i s Q:=by
 intro r₀ w₀ A w r hH S
 unfold wpOp
 simp only [ho]
 have hw:Region.wanted o (yielded ops A.tmps)=true:=by unfold Region.wanted;rw [hg]
 rw [if_pos hw]
 obtain ⟨v,w',s',r',h1,h2,h3⟩:=h r₀ w₀ A w r hH S
 exact .inl (wp_of_run h1 (h3 r₀ w₀ _ _ _ hH h2))
theorem SWO.appE {i ds:Nat} {sx xx:Operand} {t tx e:TypeId} {z:Value} (hT:ByteT P t e z) (ho:(ops[i]?).map (fun o=>(o.guard,o.op,o.dst))=some (none,.call { callee := .builtin .append,args := #[sx,xx],argTypes := #[t,tx] },some ds))
  {b k:Nat} {news:List Value} (hsx:okX gl s.1.eval sx=true) (hxx:okX gl s.1.eval xx=true) (hown:s.1.eval sx = .slice (some ⟨b,0,none⟩) 0 0) (hb:getB s.2 b=some ⟨[],⟨e,(0,0)⟩⟩) (hsrc:SrcS H P tx s.2 (s.1.eval xx) k news) (hk:news.length=k) (hpos:0<k) (hsize:k≤140737488355328)
  (h : ∀ cap q,OwnRow news cap q→SWA H P gl ops n (listed.setIfInBounds i true) (s.1.put (some ds) (.slice (some ⟨s.2.length,0,none⟩) k cap),s.2 ++ [some ⟨q,⟨e,(0,0)⟩⟩]) Q):SWO H P gl ops n listed i s Q:=by
 obtain ⟨info,hi,hz,hsz,hby⟩:=hT.info
 cases hoi:ops[i]? with
 | none=>rw [hoi] at ho;simp at ho
 | some o =>
  rw [hoi] at ho
  simp only [Option.map_some,Option.some.injEq,Prod.mk.injEq] at ho
  obtain ⟨o1,o2,o3⟩:=ho
  refine SWO.op hoi o1 (append_step (N:=fun s'=>SWA H P gl ops n (listed.setIfInBounds i true) s' Q) (k:=0) (cap:=0) (n:=k) (cells:=[]) (news:=news) (ty:=e) (bo:=some b) o2 hT.ht hi hz hsz hby hT.hzc hT.hzf hsx hxx (by rw [hown];exact .row b 0 0 [] e hb rfl (Nat.le_refl _)) hsrc (by omega) (fun h=>by cases h) (fun b' hb2 hroom=>by omega) (fun hgrow c hc => ?_))
  rw [o3]
  have e0:OwnRow [] 0 []:=⟨rfl,Nat.le_refl _,rfl,rfl⟩
  have hr:=e0.grow (c:=c) (news:=news) (z:=z) (by simpa [hk] using hc) hsrc.1 hT.hzf
  simp only [List.length_nil,Nat.zero_add,List.nil_append,List.take_nil] at hr
  rw [Nat.zero_add,List.take_nil,List.nil_append]
  rw [hk] at hr
  exact h c _ hr
theorem SWL.callT {c:Code} {l:List Nat} {i d:Nat} {f:FuncId} {args:Array Operand} {ts:Array TypeId} {k:Nat} {e:TypeId} {u:Value} {R:Nat→List Value→Prop} (hu:flat2 u=true)
  (ho:((rOps c)[i]?).map (fun o=>(o.guard,o.op,o.dst))=some (none,.call ⟨.value (.func f),args,ts⟩,some d))
  (hcall : ∀ r₀ w₀ A w r,H r₀ w₀→Sim gl r₀ w₀ s.1 s.2 A w r→CallOK P f (args.map A.eval) w fun v' w' => ∃ c cap q,v' = .tuple #[u,.slice (some ⟨c,0,none⟩) k cap]∧w.heap.size≤c∧w'.heap[c]? = some (.cells q.toArray e (0,0))∧q.all flat1=true∧R cap q∧Below w.heap.size w w')
  (h : ∀ cap q,q.all flat1=true→R cap q→SWL H P gl (rOps c) l (s.1.put (some d) (.tuple #[u,.slice (some ⟨s.2.length,0,none⟩) k cap]),s.2 ++ [some ⟨q,⟨e,(0,0)⟩⟩]) Q):SWL H P gl (rOps c) (i :: l) s Q:=by
 cases hoi:(rOps c)[i]? with
 | none=>rw [hoi] at ho;simp at ho
 | some o =>
  rw [hoi] at ho
  simp only [Option.map_some,Option.some.injEq,Prod.mk.injEq] at ho
  obtain ⟨o1,o2,o3⟩:=ho
  refine SWL.call hoi o1 o2 fun r₀ w₀ A w r hH S => ?_
  have key : ∀ v' w',(∃ c cap q,v' = .tuple #[u,.slice (some ⟨c,0,none⟩) k cap]∧w.heap.size≤c∧w'.heap[c]? = some (.cells q.toArray e (0,0))∧q.all flat1=true∧R cap q∧Below w.heap.size w w') → ∃ s' r',Sim gl r₀ w₀ s'.1 s'.2 (A.put o.dst v') w' r'∧SWL H P gl (rOps c) l s' Q:=by
   rintro v' w' ⟨c,cap,q,rfl,hc,hcell,hq,hR,hbel⟩
   have hR1:=S.rel.below hbel
   have hn:r s.2.length=none:=by
    cases hr:r s.2.length with
    | none=>rfl
    | some x =>
     obtain ⟨B,hB⟩:=S.rel.full _ _ hr
     have:=getB_lt hB
     omega
   have hle:=le_upd (c:=c) hn
   have hrel:Rel (upd r s.2.length c) (s.2 ++ [some ⟨q,⟨e,(0,0)⟩⟩]) w':=by
    refine ⟨fun b B hB => ?_,fun b x hx => ?_,fun b b' x h1 h2 => ?_⟩
    ·rw [getB_snoc] at hB
     split at hB
     ·rename_i eb
      cases hB
      exact ⟨c,q,by simp [upd,eb],trL_all (tr1_flat _) hq,hcell⟩
     ·obtain ⟨c',cs,p1,p2,p3⟩:=hR1.cells b B hB
      exact ⟨c',cs,hle _ _ p1,trL_mono (tr1_more hle) p2,p3⟩
    ·rw [getB_snoc]
     unfold upd at hx
     split at hx
     ·rename_i eb;rw [if_pos eb];exact ⟨_,rfl⟩
     ·rename_i eb;rw [if_neg eb];exact hR1.full b x hx
    ·unfold upd at h1 h2
     split at h1 <;> split at h2
     ·rename_i e1 e2;rw [e1,e2]
     ·cases h1;have:=S.rel.lt h2;omega
     ·cases h2;have:=S.rel.lt h1;omega
     ·exact S.rel.inj b b' x h1 h2
   have htr:tr (upd r s.2.length c) (.tuple #[u,.slice (some ⟨s.2.length,0,none⟩) k cap])=some (.tuple #[u,.slice (some ⟨c,0,none⟩) k cap]):=by
    have h1:trL (tr2 (upd r s.2.length c)) [u,.slice (some ⟨s.2.length,0,none⟩) k cap]=some [u,.slice (some ⟨c,0,none⟩) k cap]:=trL_mk (tr2_flat _ u hu) (trL_mk (by simp [tr2,tr1,upd]) rfl)
    simp [tr,h1]
   have hq2:=h cap q hq hR
   rw [←o3] at hq2
   refine ⟨(s.1.put o.dst (.tuple #[u,.slice (some ⟨s.2.length,0,none⟩) k cap]),s.2 ++ [some ⟨q,⟨e,(0,0)⟩⟩]),upd r s.2.length c,S.put (v := .tuple #[u,.slice (some ⟨s.2.length,0,none⟩) k cap]) hrel hle (fun b x hx => ?_) (fr_below S.fr hbel) htr o.dst,hq2⟩
   unfold upd at hx
   split at hx
   ·cases hx;exact .inr (by have:=S.fr.size;omega)
   ·exact .inl hx
  rcases hcall r₀ w₀ A w r hH S with ⟨v',w',h1,h2⟩ | ⟨h1,h2⟩
  ·exact .inl ⟨v',w',h1,key v' w' h2⟩
  ·refine .inr ⟨h1,h2.mono ?_⟩
   rintro e' w' ⟨v',rfl,h3⟩
   exact ⟨v',rfl,key v' w' h3⟩
theorem callsT_of_SWn {f:FuncId} {fn:Func} {c:Code} {args:List Value} {m:Mem} {n:Nat} {e:TypeId} {u:Value} {R:Nat→List Value→Prop} (hu:flat2 u=true) (hf:P.funcs[f]? = some fn) (hb:fn.body=some c)
  (h:SWn H P gl c (sinit fn args,m) fun ex s=>(ex = .normal∨ex = .ret)∧s.1.defers = [] ∧ ∃ b cap q,sres P fn s=some (.tuple #[u,.slice (some ⟨b,0,none⟩) n cap])∧getB s.2 b=some ⟨q,⟨e,(0,0)⟩⟩∧m.length≤b∧q.all flat1=true∧R cap q ∧ ∀ i B,getB m i=some B→getB s.2 i=some B)
  {r:Ren} {w:World} {args':List Value} (hr:Rel r m w) (hH:H r w) (hgl : ∀ g ∈ gl,r g=some g) (ha:trL (tr r) args=some args') :
  Calls P f args'.toArray w fun ex w' => ∃ v',ex = .returned v' ∧ ∃ c cap q,v' = .tuple #[u,.slice (some ⟨c,0,none⟩) n cap]∧w.heap.size≤c∧w'.heap[c]? = some (.cells q.toArray e (0,0))∧q.all flat1=true∧R cap q∧Below w.heap.size w w':=by
 refine calls_of_wp hf hb ?_
 have S:Sim gl r w (sinit fn args) m { tmps:=args'.toArray ++ Array.replicate (fn.ntmps - args'.toArray.size) undef,defers:=[] } w r:=by
  have hl:=trL_len ha
  obtain ⟨h1,h2⟩:=tmps_of (trL_append ha (trL_rep r (fn.ntmps - args.length))) (sinit fn args) { tmps:=args'.toArray ++ Array.replicate (fn.ntmps - args'.toArray.size) undef,defers:=[] }
   (by simp [sinit]) (by simp [hl])
  exact ⟨hr,⟨Le.refl _,fun _ _ h => .inl h⟩,Fr.refl _ _,h1,h2,rfl,hgl⟩
 refine wp_mono (h r w _ w r hH S) ?_
 rintro ex A' w' ⟨s,r',⟨he,hd,b,cap,q,h1,h2,h3,h4,h5,h6⟩,S'⟩
 obtain ⟨v',e1,e2⟩:=sres_run (a:=s.1) (m:=s.2) S' h1
 obtain ⟨c2,cs2,q1,q2,q3⟩:=S'.rel.cells b _ h2
 have hv':v' = .tuple #[u,.slice (some ⟨c2,0,none⟩) n cap]:=by
  have h1:trL (tr2 r') [u,.slice (some ⟨b,0,none⟩) n cap]=some [u,.slice (some ⟨c2,0,none⟩) n cap]:=trL_mk (tr2_flat _ u hu) (trL_mk (by simp [tr2,tr1,q1]) rfl)
  simp [tr,h1] at e1
  exact e1.symm
 subst hv'
 rw [trL_all (tr1_flat r') h4] at q2
 cases q2
 have hge:w.heap.size≤c2:=by
  rcases S'.ext.2 b c2 q1 with h0 | h0
  ·obtain ⟨B,hB⟩:=hr.full b c2 h0
   have:=getB_lt hB
   omega
  ·exact h0
 have hbel:Below w.heap.size w w':=by
  refine ⟨S'.fr.os,S'.fr.tape,S'.fr.output,S'.fr.size,fun k hk => ?_⟩
  by_cases hm : ∃ i,r i=some k
  ·obtain ⟨i,hik⟩:=hm
   obtain ⟨B,hB⟩:=hr.full i k hik
   obtain ⟨c1,cs1,p1,p2,p3⟩:=hr.cells i B hB
   rw [hik] at p1;cases p1
   obtain ⟨c3,cs3,z1,z2,z3⟩:=S'.rel.cells i B (h6 i B hB)
   rw [S'.ext.1 _ _ hik] at z1;cases z1
   rw [trL_mono (tr1_more S'.ext.1) p2] at z2
   cases z2
   rw [z3,p3]
  ·exact S'.fr.block k hk (fun i hi=>hm ⟨i,hi⟩)
 have hdef:A'.defers = []:=S'.defers.trans hd
 rcases he with rfl | rfl
 ·exact ⟨hdef,_,e2,_,rfl,c2,cap,q,rfl,hge,q3,h4,h5,hbel⟩
 ·exact ⟨hdef,_,e2,_,rfl,c2,cap,q,rfl,hge,q3,h4,h5,hbel⟩
end Go.Proofs.YtlihbglpdkeppaaGreatDoor
