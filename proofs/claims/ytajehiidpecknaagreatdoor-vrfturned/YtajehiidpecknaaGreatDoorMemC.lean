import Derived.Test.YtajehiidpecknaaGreatDoorMemB
set_option linter.all false
namespace Go.Proofs.YtajehiidpecknaaGreatDoor
open Go Go.RowKit
variable {gl:List Nat} {r₀ r:Ren} {w₀ w:World} {a A:Act} {m:Mem} {P:Program} {X:Cx}
theorem zR {sym:Bool} {t:TypeId} {x x' i v:Value} {ps:List Prop} (hx:tr r x=some x') (h:sindex P sym t x i=some (ps,v)) (hp : ∀ p ∈ ps,p) :
  ∃ v',tr r v=some v' ∧ ∀ w,(Instr.indexAt t x' i).run P w = .ok v' w:=by
 unfold sindex at h
 split at h
 ·rename_i len elem b o k n hu
  obtain ⟨c,hb,rfl⟩:=jK hx
  split at h
  ·rename_i ps' e hn he
   simp only [qG,qH] at h;obtain ⟨rfl,rfl⟩:=h
   have hn:=mc hn hp
   refine ⟨_,fa hb,fun w => ?_⟩
   simp [Instr.indexAt,asIntOf,run_underlying hu w,Instr.sureAddr,sizeOf,typeInfo,he,hn,Addr.add_mid]
  ·simp at h
 ·rename_i elem b o len cap k n hu
  obtain ⟨c,hb,rfl⟩:=eD hx
  split at h
  ·rename_i ps' e hn he
   simp only [qG,qH] at h;obtain ⟨rfl,rfl⟩:=h
   have hn:=mc hn hp
   refine ⟨_,fa hb,fun w => ?_⟩
   simp [Instr.indexAt,asIntOf,run_underlying hu w,sizeOf,typeInfo,he,hn,Addr.add_mid]
  ·simp at h
 ·simp at h
theorem AX {t:TypeId} {i:Nat} {x x' v:Value} (hx:tr r x=some x') (h:sfield P t x i=some v) :
  ∃ v',tr r v=some v' ∧ ∀ w,(Instr.fieldAt t x' i).run P w = .ok v' w:=by
 unfold sfield at h
 split at h
 ·rename_i fs b o hu
  obtain ⟨c,hb,rfl⟩:=jK hx
  split at h
  ·rename_i f hf
   split at h
   ·rename_i e he
    split at h
    ·simp at h
    ·rename_i hz
     simp only [qG] at h;subst h
     refine ⟨_,fa hb,fun w => ?_⟩
     simp [Instr.fieldAt,run_underlying hu w,hf,Instr.sureAddr,fieldPlace,sizeOf,typeInfo,he,hz,Addr.add_mid]
   ·simp at h
  ·simp at h
 ·simp at h
theorem AZ {t:TypeId} {x x' v:Value} {lo hi:Option Value} (hx:tr r x=some x') (h:sslice P t x lo hi=some v) :
  ∃ v',tr r v=some v' ∧ ∀ w,(Instr.sliceAt t x' lo hi none).run P w = .ok v' w:=by
 unfold sslice at h
 split at h
 ·rename_i n elem b o hu
  obtain ⟨c,hb,rfl⟩:=jK hx
  split at h
  ·rename_i l hh mm e hp he
   simp only [qG] at h;subst h
   refine ⟨_,cV hb,fun w => ?_⟩
   simp only [Instr.sliceAt,Sem.run_bind,run_underlying hu w,Result.andThen_ok,Instr.sureAddr,Sem.run_pure,eE _ _ hp w,sizeOf,typeInfo,run_program,he]
   by_cases hm:mm=l
   ·simp [hm]
   ·simp [hm,Addr.add_mid]
  ·simp at h
 ·rename_i elem b o len cap hu
  obtain ⟨c,hb,rfl⟩:=eD hx
  split at h
  ·rename_i l hh mm e hp he
   simp only [qG] at h;subst h
   refine ⟨_,cV hb,fun w => ?_⟩
   simp only [Instr.sliceAt,Sem.run_bind,run_underlying hu w,Result.andThen_ok,Instr.slice,Sem.run_pure,eE _ _ hp w,sizeOf,typeInfo,run_program,he]
   by_cases hm:mm=l
   ·simp [hm]
   ·simp [hm,Addr.add_mid]
  ·simp at h
 ·simp at h
theorem xP {sym:Bool} {t:TypeId} {x x' v:Value} {lo hi:Option Value} {ps:List Prop} (hx:tr r x=some x') (h:ssliceX P sym t x lo hi=some (ps,v)) (hp : ∀ p ∈ ps,p) :
  ∃ v',tr r v=some v' ∧ ∀ w,(Instr.sliceAt t x' lo hi none).run P w = .ok v' w:=by
 unfold ssliceX at h
 split at h
 ·rename_i n elem b o hu
  obtain ⟨c,hb,rfl⟩:=jK hx
  split at h
  ·rename_i qs l hh e hs he
   simp only [qG,qH] at h
   obtain ⟨rfl,rfl⟩:=h
   refine ⟨_,cV hb,fun w => ?_⟩
   simp only [Instr.sliceAt,Sem.run_bind,run_underlying hu w,Result.andThen_ok,Instr.sureAddr,Sem.run_pure,fT hs hp w,sizeOf,typeInfo,run_program,he]
   by_cases hm:n=l
   ·simp [hm]
   ·simp [hm,Addr.add_mid]
  ·simp at h
 ·rename_i elem b o len cap hu
  obtain ⟨c,hb,rfl⟩:=eD hx
  split at h
  ·rename_i qs l hh e hs he
   simp only [qG,qH] at h
   obtain ⟨rfl,rfl⟩:=h
   refine ⟨_,cV hb,fun w => ?_⟩
   simp only [Instr.sliceAt,Sem.run_bind,run_underlying hu w,Result.andThen_ok,Instr.slice,Sem.run_pure,fT hs hp w,sizeOf,typeInfo,run_program,he]
   by_cases hm:cap=l
   ·simp [hm]
   ·simp [hm,Addr.add_mid]
  ·simp at h
 ·rename_i elem len cap hu
  have hx':x' = .slice none len cap:=by simp [tr,tr2,tr1,flat1] at hx;exact hx.symm
  subst hx'
  split at h
  ·rename_i qs l hh e hs he
   simp only [qG,qH] at h
   obtain ⟨rfl,rfl⟩:=h
   refine ⟨.slice none (hh - l) (cap - l),by simp [tr,tr2,tr1,flat1],fun w => ?_⟩
   simp only [Instr.sliceAt,Sem.run_bind,run_underlying hu w,Result.andThen_ok,Instr.slice,Sem.run_pure,fT hs hp w,sizeOf,typeInfo,run_program,he]
   by_cases hm:cap=l
   ·simp [hm]
   ·simp [hm]
  ·simp at h
 ·simp only [Option.map_eq_some_iff] at h
  obtain ⟨q,hq,hq2⟩:=h
  simp only [qH] at hq2
  rw [←hq2.2]
  exact AZ hx hq
theorem Hj {t ty:TypeId} {x x' v:Value} (hx:tr r x=some x') (h:slen P t x=some v):flat v=true ∧ ∀ w,(Builtin.len_ #[t] ty #[x']).run P w = .ok v w:=by
 unfold slen at h
 split at h
 ·rename_i s hu
  have:x' = .string s:=by simp [tr,tr2,tr1,flat1] at hx;exact hx.symm
  subst this
  simp only [qG] at h;subst h
  exact ⟨rfl,fun w=>by simp [Builtin.len_,run_underlying hu]⟩
 ·rename_i n e hu
  simp only [qG] at h;subst h
  exact ⟨rfl,fun w=>by simp [Builtin.len_,run_underlying hu]⟩
 ·rename_i e p n c hu
  simp only [qG] at h;subst h
  have : ∃ p',x' = .slice p' n c:=by
   cases p with
   | none=>simp [tr,tr2,tr1,flat1] at hx;exact ⟨_,hx.symm⟩
   | some p =>
    simp only [tr,tr2,tr1] at hx
    cases hb:r p.block with
    | none=>simp [hb] at hx
    | some c'=>simp only [hb,YO,qG] at hx;exact ⟨_,hx.symm⟩
  obtain ⟨p',rfl⟩:=this
  exact ⟨rfl,fun w=>by simp [Builtin.len_,run_underlying hu]⟩
 ·rename_i e p n c hu
  simp only [qG] at h;subst h
  have:x' = .slice p n c:=by
   simp [tr,tr1,notBool] at hx
   exact hx.2.symm
  subst this
  exact ⟨rfl,fun w=>by simp [Builtin.len_,run_underlying hu]⟩
 ·simp at h
theorem Dg (R:Rel r m w) {dT sT ty:TypeId} {d d' s s' v:Value} {m':Mem} (hd:tr r d=some d') (hs:tr r s=some s') (h:scopy P dT d s m=some (v,m')) :
  flat v=true ∧ ∃ (c o:Nat) (vs:List Value),(∃ b:Nat,r b=some c)∧(Builtin.copy_ #[dT,sT] ty #[d',s']).run P w = .ok v (w.setCells c o vs)∧Rel r m' (w.setCells c o vs):=by
 unfold scopy at h
 split at h
 ·rename_i elem b o dl dc b' o' sl sc hu
  split at h
  ·rename_i e B B' he hB hB'
   split at h
   ·rename_i hc
    obtain ⟨c1,c0,c2,c3⟩:=hc
    simp only [qG,qH] at h
    obtain ⟨rfl,rfl⟩:=h
    refine ⟨rfl,?_⟩
    obtain ⟨c,hb,rfl⟩:=eD hd
    obtain ⟨c',hb',rfl⟩:=eD hs
    obtain ⟨x1,cs,p1,p2,p3⟩:=R.cells b B hB
    rw [hb] at p1;cases p1
    obtain ⟨x2,cs',q1,q2,q3⟩:=R.cells b' B' hB'
    rw [hb'] at q1;cases q1
    have hv:=pa (Nat.min sl dl) (nR o' q2)
    have l1:=eQ p2
    have l2:=eQ q2
    have l3:((cs'.drop o').take (Nat.min sl dl)).length=Nat.min sl dl:=by rw [List.length_take,List.length_drop];exact Nat.min_eq_left (by omega)
    refine ⟨c,o,(cs'.drop o').take (Nat.min sl dl),⟨b,hb⟩,?_,R.store hB hb o hv⟩
    have:=run_copy_cells (P:=P) w dT sT ty elem c o dl dc ⟨c',o',none⟩ sl sc ((cs'.drop o').take (Nat.min sl dl)) hu (by rw [he];simp [c1]) l3
     (fun j u hj=>by
      rw [Addr.add_mid]
      rw [List.getElem?_take] at hj
      split at hj
      ·rw [List.getElem?_drop] at hj
       simp [World.cell?,q3,hj]
      ·simp at hj)
     (fun j hj=>by
      rw [l3] at hj
      have:o+j<cs.length:=by omega
      simp [World.cell?,p3,this]) (fun j hj=>by simp [World.frozen?,p3,c0])
     (fun u hu=>by obtain ⟨z,hz⟩:=mG hv u hu;exact nc hz)
    rw [l3] at this
    exact this
   ·simp at h
  ·simp at h
 ·rename_i elem b o dl dc sc hu
  split at h
  ·rename_i e B he hB
   simp only [qG,qH] at h
   obtain ⟨rfl,rfl⟩:=h
   refine ⟨rfl,?_⟩
   obtain ⟨c,hb,rfl⟩:=eD hd
   have hs':s' = .slice none 0 sc:=by simp [tr,tr2,tr1,flat1] at hs;exact hs.symm
   subst hs'
   refine ⟨c,o,[],⟨b,hb⟩,?_,R⟩
   have hmin:Nat.min 0 dl=0:=Nat.zero_min dl
   simp [Builtin.copy_,run_underlying hu,Builtin.lenOf,Builtin.firstCells,sizeOf,typeInfo,he,hmin,storeCells,World.setCells]
  ·simp at h
 ·simp at h
theorem C7 {t:TypeId} {x x' v:Value} (hx:tr r x=some x') (h:sarrp P t x=some v) : ∃ v',tr r v=some v' ∧ ∀ w,(Instr.arrayAt t x').run P w = .ok v' w:=by
 unfold sarrp at h
 split at h
 ·rename_i n e b o len cap hu
  obtain ⟨c,hb,rfl⟩:=eD hx
  split at h
  ·rename_i hn
   simp only [qG] at h;subst h
   refine ⟨_,fa hb,fun w => ?_⟩
   simp [Instr.arrayAt,run_underlying hu w,show ¬ len<n by omega]
  ·simp at h
 ·simp at h
theorem rB : ∀ (ps:List (Nat × Value)) (k:Nat),ps.map (·.1)=List.range' k ps.length→ps=((ps.map (·.2)).zipIdx k).map fun x=>(x.2,x.1)
 | [],k,_=>rfl
 | (i,v) :: ps,k,h=>by
  simp only [List.map_cons,List.length_cons,List.range'_succ,List.cons.injEq] at h
  obtain ⟨rfl,h⟩:=h
  have:=rB ps (i+1) h
  simp only [List.map_cons,List.zipIdx_cons]
  rw [←this]
theorem zK : ∀ {l l':List Value},l.all oneV=true→trL (tr r) l=some l'→trL (tr1 r) l=some l'
 | [],_,_,h=>h
 | v :: l,l',ho,h=>by
  simp only [List.all_cons,Bool.and_eq_true] at ho
  obtain ⟨v',r',h1,h2,rfl⟩:=bZ h
  refine cO ?_ (zK ho.2 h2)
  cases v with
  | tuple vs =>
   have h3:vs.size=1:=by simpa [oneV] using ho.1
   simpa [tr,h3] using h1
  | agg cs=>simp [oneV] at ho
  | _=>exact h1
theorem AM (R:Rel r m w) {id:Nat} {t:TypeId} {len:Nat} {parts:List (Nat × Operand)} {v:Value} {m':Mem} {ps:List Prop} (hA : ∀ x,okX gl a.eval x=true→tr r (a.eval x)=some (A.eval x)) (h:sbuild P gl id t len parts a.eval m=some (ps,v,m')) :
  ∃ e cells,v = .slice (some ⟨id,0,none⟩) len len∧m[id]? = some none∧(Instr.buildSlice t len (parts.toArray.map fun (i,x)=>(i,A.eval x))).run P w = .ok (.slice (some ⟨w.heap.size,0,none⟩) len len) (w.alloc (.cells cells e))∧Rel (upd r id w.heap.size) m' (w.alloc (.cells cells e)):=by
 unfold sbuild at h
 split at h
 ·rename_i e hu hid
  split at h
  ·rename_i i hi
   split at h
   ·rename_i hc
    obtain ⟨c1,c2,c3,c4,c5⟩:=hc
    simp only [qG,qH] at h
    obtain ⟨_,rfl,rfl⟩:=h
    obtain ⟨z,hz⟩:=Option.isSome_iff_exists.1 c2
    have hall:=List.all_eq_true.1 c5
    have htr : ∀ l:List (Nat × Operand),(∀ p ∈ l,(okX gl a.eval p.2 && oneV (a.eval p.2))=true)→trL (tr1 r) (l.map fun p=>a.eval p.2)=some (l.map fun p=>A.eval p.2):=by
     intro l hl
     refine zK (List.all_eq_true.2 fun v hv => ?_) ?_
     ·obtain ⟨p,hp,rfl⟩:=List.mem_map.1 hv
      have:=hl p hp
      simp only [Bool.and_eq_true] at this;exact this.2
     ·induction l with
      | nil=>rfl
      | cons q l ih =>
       have hq:=hl q (by simp)
       simp only [Bool.and_eq_true] at hq
       exact cO (hA q.2 hq.1) (ih fun p hp=>hl p (by simp [hp]))
    have hcs:=htr parts hall
    have hone : ∀ u ∈ parts.map (fun p=>A.eval p.2),u.cells = #[u]:=by
     intro u hu
     obtain ⟨x,hx⟩:=mG hcs u hu
     have:=nc hx
     cases u <;> first | rfl | simp [Value.oneCell'] at this
    have hlen:parts.length=len:=by
     have:=congrArg List.length c4
     simpa using this
    have hzip:=rB (parts.map fun p=>(p.1,A.eval p.2)) 0 (by
     rw [List.map_map]
     have:((fun x:Nat × Value=>x.1) ∘ fun p:Nat × Operand=>(p.1,A.eval p.2))=fun p=>p.1:=rfl
     rw [this,c4,List.length_map,hlen])
    rw [List.map_map] at hzip
    have hsnd:((fun x:Nat × Value=>x.2) ∘ fun p:Nat × Operand=>(p.1,A.eval p.2))=fun p=>A.eval p.2:=rfl
    rw [hsnd] at hzip
    obtain ⟨rr,f1,f2,f3⟩:=Great.fill_dense (s:=1) (by decide) (parts.map fun p=>A.eval p.2) 0 ((Array.range (len*1)).map (z.cells[· % z.cells.size]!)) (fun u hu=>by rw [hone u hu];rfl) (by simp [hlen])
    have hrr:rr=(parts.map fun p=>A.eval p.2).toArray:=by
     apply Array.ext_getElem?
     intro k
     rw [f3 k]
     by_cases hk:k<len
     ·rw [if_pos (by simp [hlen];exact hk)]
      simp only [Nat.div_one,Nat.sub_zero,Nat.mod_one]
      have hk2:k<(parts.map fun p=>A.eval p.2).length:=by simp [hlen];exact hk
      rw [List.getElem?_eq_getElem hk2]
      simp only [Option.bind_some]
      have hr2:(parts.map fun p=>A.eval p.2).toArray[k]? = some (parts.map fun p=>A.eval p.2)[k]:=by rw [List.getElem?_toArray,List.getElem?_eq_getElem hk2]
      rw [hr2,hone _ (List.getElem_mem hk2)]
      rfl
     ·rw [if_neg (by simp [hlen];omega)]
      rw [List.getElem?_toArray,List.getElem?_eq_none (by simp [hlen];omega),Array.getElem?_eq_none (by simp;omega)]
    refine ⟨e,rr,rfl,hid,?_,by rw [hrr];exact R.alloc hid e hcs⟩
    have hparts:(parts.toArray.map fun (x:Nat × Operand)=>(x.1,A.eval x.2)).toList=((parts.map fun p=>A.eval p.2).zipIdx 0).map fun x=>(x.2,x.1):=by
     simp only [Array.toList_map]
     exact hzip
    by_cases h0:len=0
    ·subst h0
     have hp0:parts = []:=List.length_eq_zero_iff.1 hlen
     subst hp0
     have hr0:rr = #[]:=by rw [hrr];rfl
     rw [hr0]
     have hf0:Instr.fill (fun i=>some (i*1,1)) #[] []=some #[]:=rfl
     simp only [Instr.buildSlice,Sem.run_bind,run_underlying hu w,Result.andThen_ok,sizeOf,typeInfo,run_program,hi,Sem.run_pure,c1]
     rw [if_neg (by decide),if_pos (by trivial)]
     have e1:(Array.map (fun x:Nat × Operand=>(x.1,A.eval x.2)) #[]).toList = []:=by simp
     have e2 : ∀ g:Nat→Value,Array.map g (Array.range (0*1)) = #[]:=fun g=>by simp
     simp only [Sem.run_bind,Sem.run_pure,Result.andThen_ok]
     rw [e1,e2]
     simp [Instr.fill,newRow]
    ·exact run_buildSlice w t e len _ rr i z hu hi hz (by rw [c1];omega) (by rw [c1];omega) (by rw [c1,hparts];exact f1)
   ·simp at h
  ·simp at h
 ·simp at h
theorem JZ (hX:X.OkF P r₀ w₀) {o:Oper} {ps:List Prop} {v:Value} {m':Mem} {id:Nat} (h:sop P X id o a.eval m=some (ps,v,m')) (hp : ∀ p ∈ ps,p) (S:Sim X.gl r₀ w₀ a m A w r) {K:Act→World→Prop} {Q:Exit→Act→World→Prop}
  (hK : ∀ A' w' r',Sim X.gl r₀ w₀ (a.put o.dst v) m' A' w' r'→K A' w'):o.wp P A w K Q:=by
 unfold sop at h
 split at h
 ·rename_i x ho
  split at h
  ·rename_i hx
   simp only [qG,qH] at h
   obtain ⟨rfl,rfl,rfl⟩:=h
   exact bB (v:=A.eval x) (by simp [execOp,ho]) (hK _ _ _ (S.put0 (S.eval hx) _))
  ·simp at h
 ·rename_i x ho
  split at h
  ·rename_i hx
   simp only [qG,qH] at h
   obtain ⟨rfl,rfl,rfl⟩:=h
   exact bB (v:=A.eval x) (by simp [execOp,ho]) (hK _ _ _ (S.put0 (S.eval hx) _))
  ·simp at h
 ·rename_i t ho
  split at h
  ·rename_i i hi hid
   split at h
   ·rename_i z hz
    split at h
    ·rename_i hf
     simp only [qG,qH] at h
     obtain ⟨rfl,rfl,rfl⟩:=h
     have hcs:=ll (nZ r z hf)
     have hn:=S.rel.hole hid
     refine bB (v := .pointer (some ⟨w.heap.size,0,none⟩)) (w':=w.alloc (.cells z.cells t)) (by simp [execOp,ho,Instr.alloc,zeroValue,typeInfo,hi,hz,newVar,newRow]) (hK _ _ (upd r id w.heap.size) (S.put ?_ (rX hn) (fun b c hc => ?_) (nF S.fr _) (fa (by simp [upd])) _))
     ·simpa using S.rel.alloc hid t hcs
     ·unfold upd at hc
      split at hc
      ·cases hc;exact .inr S.fr.size
      ·exact .inl hc
    ·simp at h
   ·simp at h
  ·simp at h
 ·rename_i t x ho
  split at h
  ·rename_i hid
   split at h
   ·rename_i hx
    simp only [Bool.and_eq_true] at hx
    simp only [qG,qH] at h
    obtain ⟨rfl,rfl,rfl⟩:=h
    have hcs:=ll (wY hx.2 (S.eval hx.1))
    have hn:=S.rel.hole hid
    refine bB (v := .pointer (some ⟨w.heap.size,0,none⟩)) (w':=w.alloc (.cells (A.eval x).cells t)) (by simp [execOp,ho,Instr.box,newVar,newRow]) (hK _ _ (upd r id w.heap.size) (S.put ?_ (rX hn) (fun b c hc => ?_) (nF S.fr _) (fa (by simp [upd])) _))
    ·simpa using S.rel.alloc hid t hcs
    ·unfold upd at hc
     split at hc
     ·cases hc;exact .inr S.fr.size
     ·exact .inl hc
   ·simp at h
  ·simp at h
 ·rename_i t x ho
  split at h
  ·rename_i hx
   split at h
   ·rename_i b o' he
    cases hl:sloadX P X.sym t b o' m with
    | none=>simp [hl] at h
    | some u =>
     simp only [hl,YO,qG,qH] at h
     obtain ⟨rfl,rfl,rfl⟩:=h
     have hl:=tW hl hp
     have h1:=S.eval hx
     rw [he] at h1
     obtain ⟨c,hb,e⟩:=jK h1
     obtain ⟨v',h2,h3⟩:=uD S.rel hb hl
     exact bB (v:=v') (by simp [execOp,ho,e,Instr.loadAt,Instr.sureAddr,h3]) (hK _ _ _ (S.put0 h2 _))
   ·simp at h
  ·simp at h
 ·rename_i t x y ho
  split at h
  ·rename_i hx
   simp only [Bool.and_eq_true] at hx
   split at h
   ·rename_i b o' he
    cases hl:sstoreX P X.symSt t b o' (a.eval y) m with
    | none=>simp [hl] at h
    | some mm =>
     simp only [hl,YO,qG,qH] at h
     obtain ⟨rfl,rfl,rfl⟩:=h
     have hl:=rU hl hp
     have h1:=S.eval hx.1.1
     rw [he] at h1
     obtain ⟨c,hb,e⟩:=jK h1
     obtain ⟨h3,h4⟩:=AW S.rel hb (wY hx.2 (S.eval hx.1.2)) hl
     refine xL (w':=w.setCells c o' (A.eval y).cells.toList) (by simp [execOp,ho,e,Instr.storeAt,Instr.sureAddr,h3]) (hK _ _ r (S.put h4 (Le.refl _) (fun _ _ h => .inl h) (mg S.fr (S.home hb) _ _) (dk _) _))
   ·simp at h
  ·simp at h
 ·rename_i t x i ho
  split at h
  ·rename_i hx
   simp only [Bool.and_eq_true] at hx
   cases hl:sindex P X.sym t (a.eval x) (a.eval i) with
   | none=>simp [hl] at h
   | some u =>
    simp only [hl,YO,qG,qH] at h
    obtain ⟨rfl,rfl,rfl⟩:=h
    obtain ⟨v',h2,h3⟩:=zR (S.eval hx.1) hl hp
    exact bB (v:=v') (by simp [execOp,ho,S.evalFlat hx.2,h3]) (hK _ _ _ (S.put0 h2 _))
  ·simp at h
 ·rename_i t x i ho
  split at h
  ·rename_i hx
   cases hl:sfield P t (a.eval x) i with
   | none=>simp [hl] at h
   | some u =>
    simp only [hl,YO,qG,qH] at h
    obtain ⟨rfl,rfl,rfl⟩:=h
    obtain ⟨v',h2,h3⟩:=AX (S.eval hx) hl
    exact bB (v:=v') (by simp [execOp,ho,h3]) (hK _ _ _ (S.put0 h2 _))
  ·simp at h
 ·rename_i x ho
  split at h
  ·rename_i hx
   split at h
   ·rename_i p he
    simp only [qG,qH] at h
    obtain ⟨rfl,rfl,rfl⟩:=h
    have h1:=S.eval hx
    have h2 : ∃ p',A.eval x = .pointer (some p'):=by
     rw [he] at h1
     simp only [tr,tr2,tr1] at h1
     cases hb:r p.block with
     | none=>simp [hb] at h1
     | some c=>simp only [hb,YO,qG] at h1;exact ⟨_,h1.symm⟩
    obtain ⟨p',hp'⟩:=h2
    refine bB (v:=A.eval x) (by simp [execOp,ho,hp']) (hK _ _ _ (S.put0 (by rw [←he];exact h1) _))
   ·exact uC h hp S hK
  ·simp at h
 ·rename_i t x lo hi ho
  split at h
  ·rename_i hx
   simp only [Bool.and_eq_true] at hx
   have elo:lo.map A.eval=lo.map a.eval:=by
    cases lo with
    | none=>rfl
    | some y=>simp only [YO,S.evalFlat (by simpa using hx.1.2)]
   have ehi:hi.map A.eval=hi.map a.eval:=by
    cases hi with
    | none=>rfl
    | some y=>simp only [YO,S.evalFlat (by simpa using hx.2)]
   cases hl:ssliceX P X.sym t (a.eval x) (lo.map a.eval) (hi.map a.eval) with
   | none=>simp [hl] at h
   | some u =>
    simp only [hl,YO,qG,qH] at h
    obtain ⟨rfl,rfl,rfl⟩:=h
    obtain ⟨v',h2,h3⟩:=xP (S.eval hx.1.1) hl hp
    exact bB (v:=v') (by simp [execOp,ho,elo,ehi,h3]) (hK _ _ _ (S.put0 h2 _))
  ·simp at h
 ·rename_i f args ts ho
  split at h
  ·rename_i hx
   have e:(args.toList.map A.eval).toArray=args.map A.eval:=by rw [←Array.toList_map,Array.toArray_toList]
   have hrun:(execOp A.eval o).run P w=(callFunc f (args.map A.eval)).run P w:=by
    simp [execOp,ho,resolve,Act.eval,Deferred.ofValue,invoke]
   split at h
   ·have hc:=hX.wcall f _ m ps v m' h hp r w _ S.rel S.fr S.ext.2 S.glob (S.evals hx)
    rw [e] at hc
    unfold Oper.wp
    rw [hrun]
    rcases hc with ⟨v',w',h1,h2,h3,h4⟩ | ⟨h1,h2⟩
    ·rw [h1]
     exact hK _ _ r (S.put h3 (Le.refl _) (fun _ _ h => .inl h) (S.frTrans h4) h2 _)
    ·rw [h1]
     refine Calls.mono h2 ?_
     rintro e w' ⟨v',rfl,h3,h4,h5⟩
     exact hK _ _ r (S.put h4 (Le.refl _) (fun _ _ h => .inl h) (S.frTrans h5) h3 _)
   cases hl:X.C f (args.toList.map a.eval) m with
   | none=>simp [hl] at h
   | some u =>
    simp only [hl,YO,qG,qH] at h
    obtain ⟨rfl,rfl,rfl⟩:=h
    have hc:=hX.call f _ m u.1 u.2 hl hp r w _ S.rel S.fr S.ext.2 S.glob (S.evals hx)
    rw [e] at hc
    unfold Oper.wp
    rw [hrun]
    rcases hc with ⟨v',w',h1,h2,h3⟩ | ⟨h1,h2⟩
    ·rw [h1]
     exact hK _ _ r (S.put (S.rel.below h3) (Le.refl _) (fun _ _ h => .inl h) (vD S.fr h3) h2 _)
    ·rw [h1]
     refine Calls.mono h2 ?_
     rintro e w' ⟨v',rfl,h3,h4⟩
     exact hK _ _ r (S.put (S.rel.below h4) (Le.refl _) (fun _ _ h => .inl h) (vD S.fr h4) h3 _)
  ·simp at h
 ·rename_i args ts ho
  split at h
  ·rename_i x y dT sT hargs hts
   split at h
   ·rename_i hx
    simp only [Bool.and_eq_true] at hx
    have hl:=tL h hp
    ·obtain ⟨hfl,c,o',vs,⟨b,hb⟩,h3,h4⟩:=Dg (sT:=sT) (ty:=o.type) S.rel (S.eval hx.1) (S.eval hx.2) hl
     have ea:args = #[x,y]:=by rw [←Array.toArray_toList (xs:=args),hargs]
     have et:ts = #[dT,sT]:=by rw [←Array.toArray_toList (xs:=ts),hts]
     subst ea;subst et
     refine bB (v:=v) (w':=w.setCells c o' vs) (by simp [execOp,ho,resolve,invoke,builtin,h3]) (hK _ _ r (S.put h4 (Le.refl _) (fun _ _ h => .inl h) (mg S.fr (S.home hb) _ _) (cd _ _ hfl) _))
   ·simp at h
  ·simp at h
 ·rename_i args ts ho
  split at h
  ·rename_i x t hargs hts
   split at h
   ·rename_i hx
    cases hl:slen P t (a.eval x) with
    | none=>simp [hl] at h
    | some u =>
     simp only [hl,YO,qG,qH] at h
     obtain ⟨rfl,rfl,rfl⟩:=h
     obtain ⟨hfl,h3⟩:=Hj (ty:=o.type) (S.eval hx) hl
     have ea:args = #[x]:=by rw [←Array.toArray_toList (xs:=args),hargs]
     have et:ts = #[t]:=by rw [←Array.toArray_toList (xs:=ts),hts]
     subst ea;subst et
     exact bB (v:=u) (by simp [execOp,ho,resolve,invoke,builtin,h3]) (hK _ _ _ (S.put0 (cd _ _ hfl) _))
   ·simp at h
  ·simp at h
 ·rename_i t len parts ho
  obtain ⟨e,cells,rfl,hid,h3,h4⟩:=AM S.rel (fun x hx=>S.eval hx) h
  have hn:=S.rel.hole hid
  refine bB (v := .slice (some ⟨w.heap.size,0,none⟩) len len) (w':=w.alloc (.cells cells e)) (by
   simp only [execOp,ho,Sem.run_bind]
   have:parts.toList.toArray=parts:=by simp
   rw [this] at h3
   rw [h3];rfl) (hK _ _ (upd r id w.heap.size) (S.put h4 (rX hn) (fun b c hc => ?_) (nF S.fr _) (cV (by simp [upd])) _))
  unfold upd at hc
  split at hc
  ·cases hc;exact .inr S.fr.size
  ·exact .inl hc
 ·rename_i t x ho
  split at h
  ·rename_i hx
   cases hl:sarrp P t (a.eval x) with
   | none=>simp [hl] at h
   | some u =>
    simp only [hl,YO,qG,qH] at h
    obtain ⟨rfl,rfl,rfl⟩:=h
    obtain ⟨v',h2,h3⟩:=C7 (S.eval hx) hl
    exact bB (v:=v') (by simp [execOp,ho,h3]) (hK _ _ _ (S.put0 h2 _))
  ·simp at h
 ·exact uC h hp S hK
def sopD (P:Program) (X:Cx) (id:Nat) (o:Oper) (ev:Operand→Value) (m:Mem):Option (List Prop × Value × Mem) :=
 match sop P X id o ev m with
 | some (ps,v,m')=>some (ps ++ (told X o v).1,(told X o v).2,m')
 | none=>none
theorem du {id:Nat} {o:Oper} {ev:Operand→Value} {ps:List Prop} {v:Value} {m':Mem} (h:sopD P X id o ev m=some (ps,v,m')) :
  ∃ qs u,sop P X id o ev m=some (qs,u,m')∧ps=qs ++ (told X o u).1∧v=(told X o u).2:=by
 unfold sopD at h
 split at h
 ·rename_i qs u m2 hs
  simp only [qG,qH] at h
  obtain ⟨rfl,rfl,rfl⟩:=h
  exact ⟨qs,u,hs,rfl,rfl⟩
 ·simp at h
theorem kK {id:Nat} {o:Oper} {ev:Operand→Value} {qs:List Prop} {u:Value} {m':Mem} (h:sop P X id o ev m=some (qs,u,m')):sopD P X id o ev m=some (qs ++ (told X o u).1,(told X o u).2,m'):=by
 unfold sopD;rw [h]
theorem Fp (hX:X.OkF P r₀ w₀) {id:Nat} {o:Oper} {ps:List Prop} {v:Value} {m':Mem} (h:sopD P X id o a.eval m=some (ps,v,m')) (hp : ∀ p ∈ ps,p) (S:Sim X.gl r₀ w₀ a m A w r) {K:Act→World→Prop} {Q:Exit→Act→World→Prop}
  (hK : ∀ A' w' r',Sim X.gl r₀ w₀ (a.put o.dst v) m' A' w' r'→K A' w'):o.wp P A w K Q:=by
 obtain ⟨qs,u,h1,rfl,rfl⟩:=du h
 rw [Ai (fun p hq=>hp p (by simp [hq]))] at hK
 exact JZ hX h1 (fun p hq=>hp p (by simp [hq])) S hK
end Go.Proofs.YtajehiidpecknaaGreatDoor
