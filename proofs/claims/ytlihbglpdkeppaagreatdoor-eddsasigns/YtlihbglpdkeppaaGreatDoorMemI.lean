/- Contracts of functions that read the bytes behind one slice, beside the variables. -/
import Derived.Test.YtlihbglpdkeppaaGreatDoorMemE
set_option linter.unusedSimpArgs false
set_option linter.unusedVariables false
namespace Go.Proofs.YtlihbglpdkeppaaGreatDoor
open Go Go.RowKit
variable {r:Ren} {w:World} {m:Mem} {P:Program} {X:Cx}
def flatR:Value→Bool
 | .tuple _=>true
 | v=>flat1 v
theorem flatR_tr (r r':Ren) (v:Value) (h:flatR v=true):tr1 r v=tr1 r' v:=by
 unfold flatR at h
 split at h
 ·rfl
 ·rw [tr1_flat r v h,tr1_flat r' v h]
theorem flatR_trL (r r':Ren) : ∀ l:List Value,l.all flatR=true→trL (tr1 r) l=trL (tr1 r') l
 | [],_=>rfl
 | v :: l,h=>by
  simp only [List.all_cons,Bool.and_eq_true] at h
  simp only [trL,flatR_tr r r' v h.1,flatR_trL r r' l h.2]
theorem flatR_of {l:List Value} (h:l.all flat1=true):l.all flatR=true :=
 List.all_eq_true.2 fun v hv=>by
  have:=List.all_eq_true.1 h v hv
  unfold flatR
  split
  ·rfl
  ·exact this
def oneR (M0:Mem) (c:Nat):Ren:=fun k=>if k=M0.length then some c else glR M0 k
theorem getB_snoc (M0:Mem) (x:Option Blk) (k:Nat):getB (M0 ++ [x]) k=if k=M0.length then x else getB M0 k:=by
 unfold getB
 by_cases h:k=M0.length
 ·subst h;simp
 ·rw [if_neg h]
  rcases Nat.lt_or_ge k M0.length with h1 | h1
  ·rw [List.getElem?_append_left h1]
  ·rw [List.getElem?_append_right h1,List.getElem?_eq_none h1,List.getElem?_eq_none (by simp;omega)]
theorem Rel.oneG {M0:Mem} (h:Rel r m w) (hfm:flatM M0=true) (hg:gHas M0 m=true) (hgl : ∀ g,(getB M0 g).isSome=true→r g=some g) {b c:Nat} {B:Blk} (hB:getB m b=some B) (hc:r b=some c) (hn:(getB M0 b).isNone=true) (hfl:B.cells.all flatR=true) :
  Rel (oneR M0 c) (M0 ++ [some B]) w:=by
 have hnc : ∀ k,(getB M0 k).isSome=true→c≠k:=by
  rintro k hk rfl
  have:=h.inj b c c hc (hgl c hk)
  subst this
  rw [Option.isNone_iff_eq_none] at hn
  rw [hn] at hk;cases hk
 have hG:=h.glo hg hfm hgl
 refine ⟨fun k B' hB' => ?_,fun k c' hc' => ?_,fun k k' c' h1 h2 => ?_⟩
 ·rw [getB_snoc] at hB'
  unfold oneR
  split at hB'
  ·rename_i e
   rw [if_pos e]
   cases hB'
   obtain ⟨c2,cs2,p1,p2,p3⟩:=h.cells b B hB
   rw [hc] at p1;cases p1
   exact ⟨c,cs2,rfl,(flatR_trL _ r B.cells hfl).trans p2,p3⟩
  ·rename_i e
   rw [if_neg e]
   exact ⟨k,B'.cells,by simp [glR,hB'],trL_all (tr1_flat _) (flatM_get hfm hB'),hG k B' hB'⟩
 ·rw [getB_snoc]
  unfold oneR at hc'
  split at hc'
  ·rename_i e;rw [if_pos e];exact ⟨B,rfl⟩
  ·rename_i e;rw [if_neg e];exact (glR_some hc').2
 ·unfold oneR at h1 h2
  split at h1 <;> split at h2
  ·rename_i e1 e2;rw [e1,e2]
  ·rename_i e1 e2
   cases h1
   obtain ⟨e,B2,hB2⟩:=glR_some h2
   exact absurd e (hnc k' (by rw [hB2];rfl))
  ·rename_i e1 e2
   cases h2
   obtain ⟨e,B2,hB2⟩:=glR_some h1
   exact absurd e (hnc k (by rw [hB2];rfl))
  ·rw [← (glR_some h1).1,← (glR_some h2).1]
theorem oneR_glob {M0:Mem} {gl:List Nat} (hin:insideG M0 gl=true) {c:Nat} : ∀ g ∈ gl,oneR M0 c g=some g:=fun g hg=>by
 have h1:(getB M0 g).isSome=true:=List.all_eq_true.1 hin g hg
 obtain ⟨B,hB⟩:=Option.isSome_iff_exists.1 h1
 have:=getB_lt hB
 unfold oneR
 rw [if_neg (by omega)]
 simp [glR,hB]
def gRd (M0:Mem) (T:List Value→Nat→Nat→Nat→List Value→Prop) (V:List Value→Nat→Nat→List Value→Value) (args:List Value) (m:Mem):Option (List Prop × Value) :=
 match args.getLast? with
 | some (.slice (some ⟨b,o,none⟩) n c)=>if args.dropLast.all flat && (gHas M0 m && (getB M0 b).isNone) then
   (getB m b).map fun B=>([B.cells.all flatR=true,T B.cells o n c args.dropLast],V B.cells o n args.dropLast)
  else none
 | _=>none
theorem last_split {args:List Value} {v:Value} (h:args.getLast? = some v):args=args.dropLast ++ [v]:=by
 obtain ⟨ys,rfl⟩:=List.getLast?_eq_some_iff.1 h
 simp
theorem gRd_ok (hX : X.Ok P) {M0 : Mem} (hfm : flatM M0 = true) (hcov : coversG M0 X.gl = true) {gl : List Nat} (hin : insideG M0 gl = true) {f : FuncId} {fn : Func} {c : Code} (hf : P.funcs[f]? = some fn) (hname : (fn.name == "runtime.NumGoroutine") = false) (hb : fn.body = some c)
  {T:List Value→Nat→Nat→Nat→List Value→Prop} {V:List Value→Nat→Nat→List Value→Value}
  (h : ∀ l ty o n k qs,l.all flatR=true→qs.all flat=true→T l o n k qs→flat (V l o n qs)=true ∧
   SW P gl c (sinit fn (qs ++ [.slice (some ⟨M0.length,o,none⟩) n k]),M0 ++ [some ⟨l,ty⟩]) fun e s=>(e = .normal∨e = .ret)∧s.1.defers = [] ∧ ∃ v x,sres P fn s=some v∧(flat v=true∨v=undef)∧s.2=(M0 ++ [some ⟨l,ty⟩]) ++ x∧v=V l o n qs) :
  (X.read f (gRd M0 T V)).Ok P:=by
 refine Cx.read_ok hX (fun args m ps v hg hp r w args' hr hgl ha => ?_) (fun args m q i B hi hg => ?_)
 ·unfold gRd at hg
  split at hg
  ·rename_i b o n k hl
   split at hg
   ·rename_i hall
    simp only [Bool.and_eq_true] at hall
    cases hB:getB m b with
    | none=>simp [hB] at hg
    | some B =>
     simp only [hB,Option.map_some,Option.some.injEq,Prod.mk.injEq] at hg
     obtain ⟨rfl,rfl⟩:=hg
     have hfl:=hp _ (List.mem_cons_self)
     have hT:=hp _ (List.mem_cons_of_mem _ (List.mem_singleton.2 rfl))
     obtain ⟨h1,h2⟩:=h B.cells B.ty o n k args.dropLast hfl hall.1 hT
     have e:=last_split hl
     obtain ⟨c0,cs,p1,_,_⟩:=hr.cells b B hB
     have ha0:trL (tr r) (args.dropLast ++ [.slice (some ⟨b,o,none⟩) n k])=some (args.dropLast ++ [.slice (some ⟨c0,o,none⟩) n k]):=trL_append (trL_flat hall.1) (trL_mk (tr_of_slice p1) rfl)
     rw [←e,ha] at ha0
     cases ha0
     have hR:=hr.oneG hfm hall.2.1 (fun g hg=>hgl g (coversG_get hcov hg)) hB p1 hall.2.2 hfl
     have ha1:trL (tr (oneR M0 c0)) (args.dropLast ++ [.slice (some ⟨M0.length,o,none⟩) n k])=some (args.dropLast ++ [.slice (some ⟨c0,o,none⟩) n k]):=trL_append (trL_flat hall.1) (trL_mk (tr_of_slice (by simp [oneR])) rfl)
     refine call_enter hf hname hb ((calls_of_SW hf hb h2 hR (oneR_glob hin) ha1).mono ?_)
     rintro e w' ⟨u,rfl,rfl,hbel⟩
     exact ⟨_,rfl,tr_flat r _ h1,hbel⟩
   ·simp at hg
  ·simp at hg
 ·unfold gRd at hg ⊢
  split at hg
  ·rename_i b o n k hl
   split at hg
   ·rename_i hall
    simp only [Bool.and_eq_true] at hall
    cases hB:getB m b with
    | none=>simp [hB] at hg
    | some B' =>
     rw [if_pos (by simp only [Bool.and_eq_true];exact ⟨hall.1,gHas_more hi hall.2.1,hall.2.2⟩),getB_fill (hole_ne hi hB)]
     exact hg
   ·simp at hg
  ·simp at hg
def gUn (k k':IntKind) (S:Int→Int) (args:List Value):Option (List Prop × Value) :=
 match args with
 | [.int q x]=>if q=k then some ([],.int k' (S x)) else none
 | _=>none
theorem gUn_ok (hX : X.Ok Tryz.prog) {Y : Cx} (hY : Y.Ok Tryz.prog) (hgl : Y.gl = []) {n : Nat} {f : FuncId} {fn : Func} (hf : Tryz.prog.funcs[f]? = some fn) (hname : (fn.name == "runtime.NumGoroutine") = false) (hb : fn.body = some (bodyOf fn)) {k k' : IntKind} {S : Int → Int}
  (h : ∀ x,sfun Tryz.prog Y n fn (bodyOf fn) [.int k x]=some ([],.int k' (S x))):(X.pure f (gUn k k' S)).Ok Tryz.prog:=by
 refine gBody_ok hX hf hname hb fun args ps v ha hg hp => ?_
 unfold gUn at hg
 split at hg
 ·rename_i q x
  split at hg
  ·rename_i e
   subst e
   simp only [Option.some.injEq,Prod.mk.injEq] at hg
   obtain ⟨rfl,rfl⟩:=hg
   exact ⟨.inl rfl,fun w=>sfun_calls hY mixed hf hb (h x) (by simp) ha (.inl rfl) w hgl⟩
  ·simp at hg
 ·simp at hg
end Go.Proofs.YtlihbglpdkeppaaGreatDoor
namespace Go.Proofs.YtlihbglpdkeppaaGreatDoor
open Go Go.RowKit
variable {gl:List Nat} {r:Ren} {w:World} {m:Mem} {P:Program} {X:Cx}
def sexecL (P:Program) (X:Cx) (n:Nat):List Code→List Prop→Act × Mem→Option (List Prop × Act × Mem)
 | [],qs,s=>some (qs,s)
 | c :: cs,qs,s=>match sexec P X n c qs s with
  | some (qs',.normal,s')=>sexecL P X n cs qs' s'
  | _=>none
def seqs:List Code→Code→Code
 | [],c=>c
 | a :: cs,c => .seq a (seqs cs c)
def runL (P:Program) (X:Cx) (n:Nat) (cs:List Code) (s:Act × Mem):Act × Mem :=
 match sexecL P X n cs [] s with
 | some (_,s')=>s'
 | Option.none=>s
theorem sexecL_ob {n:Nat} : ∀ (cs:List Code) (qs:List Prop) (s:Act × Mem) (rs:List Prop) (s':Act × Mem),sexecL P X n cs qs s=some (rs,s') → ∀ p ∈ qs,p ∈ rs
 | [],qs,s,rs,s',h,p,hp=>by simp only [sexecL,Option.some.injEq,Prod.mk.injEq] at h;rw [←h.1];exact hp
 | c :: cs,qs,s,rs,s',h,p,hp=>by
  simp only [sexecL] at h
  split at h
  ·rename_i h1
   exact sexecL_ob cs _ _ _ _ h p (sexec_ob _ _ _ _ _ _ _ h1 p hp)
  ·simp at h
theorem sexecL_sound (hX:X.Ok P) (hm:P.follows .mixedOrders=true) {n:Nat} {rest:Code} {Q:Exit→Act × Mem→Prop} {rs:List Prop} (hrs : ∀ p ∈ rs,p) : ∀ (cs:List Code) (qs:List Prop) (s s':Act × Mem),sexecL P X n cs qs s=some (rs,s')→SW P X.gl rest s' Q→SW P X.gl (seqs cs rest) s Q
 | [],qs,s,s',h,hq=>by simp only [sexecL,Option.some.injEq,Prod.mk.injEq] at h;rw [h.2];exact hq
 | c :: cs,qs,s,s',h,hq=>by
  simp only [sexecL] at h
  split at h
  ·rename_i q1 s1 h1
   refine SW.seq ((sexec_sound hX hm hrs n c qs _ s _ _ h1 (sexecL_ob cs _ _ _ _ h)).mono ?_)
   rintro e s2 ⟨rfl,rfl⟩
   exact sexecL_sound hX hm hrs cs _ _ _ h hq
  ·simp at h
theorem SW.pre (hX:X.Ok P) (hm:P.follows .mixedOrders=true) {n:Nat} {c rest:Code} {cs:List Code} {s s':Act × Mem} {ps:List Prop} {Q:Exit→Act × Mem→Prop} (hc:c=seqs cs rest) (h:sexecL P X n cs [] s=some (ps,s')) (hp : ∀ p ∈ ps,p) (hq:SW P X.gl rest s' Q):SW P X.gl c s Q:=by
 rw [hc];exact sexecL_sound hX hm hp cs [] s s' h hq
theorem SW.loopK {c b:Code} {s:Act × Mem} {Q:Exit→Act × Mem→Prop} (hc:c = .loop b) (l:List Nat) (hd:Nat→Act × Mem) (k0 n:Nat) (h0:(forgetL s.1 l,s.2)=hd k0) (hk:k0≤n)
  (round : ∀ k,k0≤k→k<n→SW P gl b (hd k) (thenS (fun s'=>(forgetL s'.1 l,s'.2)=hd (k+1)) Q))
  (last:SW P gl b (hd n) (thenS (fun _=>False) Q)):SW P gl c s Q:=by
 rw [hc]
 refine SW.loop (fun j s => ∃ k,k0≤k∧k≤n∧j=n - k∧(forgetL s.1 l,s.2)=hd k) (n - k0) ⟨k0,Nat.le_refl _,hk,rfl,h0⟩ ?_
 rintro j ⟨a,m⟩ ⟨k,h1,h2,rfl,h3⟩
 refine SW.forget l ?_
 simp only at h3
 rw [h3]
 rcases Nat.lt_or_ge k n with h | h
 ·refine (round k h1 h).mono ?_
  rintro (_ | _ | _ | _) s' hs
  ·exact ⟨n - (k+1),by omega,k+1,by omega,by omega,rfl,hs⟩
  all_goals exact hs
 ·have:k=n:=by omega
  subst this
  refine last.mono ?_
  rintro (_ | _ | _ | _) s' hs
  ·exact hs.elim
  all_goals exact hs
theorem SW.forgetK {c:Code} {s t:Act × Mem} {Q:Exit→Act × Mem→Prop} (l:List Nat) (h:(forgetL s.1 l,s.2)=t) (hq:SW P gl c t Q):SW P gl c s Q:=by
 obtain ⟨a,m⟩:=s
 exact SW.forget l (by rw [show (forgetL a l,m)=t from h];exact hq)
theorem blockS_exit {id:Nat} {Q:Exit→Act × Mem→Prop} {s:Act × Mem} (h:Q .normal s):blockS id Q (.exit id) s:=by simp only [blockS,if_true];exact h
theorem thenS_norm {N:Act × Mem→Prop} {Q:Exit→Act × Mem→Prop} {s:Act × Mem} (h:N s):thenS N Q .normal s:=h
theorem thenS_exit {N:Act × Mem→Prop} {Q:Exit→Act × Mem→Prop} {s:Act × Mem} {id:Nat} (h:Q (.exit id) s):thenS N Q (.exit id) s:=h
theorem SW.runG (hX:X.Ok P) (hm:P.follows .mixedOrders=true) (hg:X.gl=gl) {c:Code} {s s':Act × Mem} {e:Exit} {ps:List Prop} {Q:Exit→Act × Mem→Prop} (n:Nat) (h:sexec P X n c [] s=some (ps,e,s')) (hp : ∀ p ∈ ps,p) (hq:Q e s'):SW P gl c s Q:=by
 rw [←hg];exact SW.run hX hm n h hp hq
theorem SW.preG (hX:X.Ok P) (hm:P.follows .mixedOrders=true) (hg:X.gl=gl) {n:Nat} {c rest:Code} {cs:List Code} {s s':Act × Mem} {ps:List Prop} {Q:Exit→Act × Mem→Prop} (hc:c=seqs cs rest) (h:sexecL P X n cs [] s=some (ps,s')) (hp : ∀ p ∈ ps,p) (hq:SW P gl rest s' Q):SW P gl c s Q:=by
 subst hg;exact SW.pre hX hm hc h hp hq
end Go.Proofs.YtlihbglpdkeppaaGreatDoor
namespace Go.Proofs.YtlihbglpdkeppaaGreatDoor
open Go Go.RowKit
variable {r:Ren} {w:World} {m:Mem} {P:Program} {X:Cx}
def oneR0 (c:Nat):Ren:=fun k=>if k=0 then some c else none
def gW1 (T:List Value→Nat→Nat→Nat→List Value→Prop) (U:List Value→Nat→List Value→List Value) (args:List Value) (m:Mem):Option (List Prop × Value × Mem) :=
 match args with
 | .slice (some ⟨b,o,none⟩) n k :: qs=>if qs.all flat then
   match getB m b with
   | some B=>if B.ty.fz=(0,0) then some ([B.cells.all flat1=true,T B.cells o n k qs],.tuple #[],m.set b (some ⟨U B.cells o qs,B.ty⟩)) else none
   | none=>none
  else none
 | _=>none
theorem gW1_ok (hX : X.Ok P) {f : FuncId} {fn : Func} {c : Code} (hf : P.funcs[f]? = some fn) (hname : (fn.name == "runtime.NumGoroutine") = false) (hb : fn.body = some c)
  {T:List Value→Nat→Nat→Nat→List Value→Prop} {U:List Value→Nat→List Value→List Value}
  (h : ∀ l (ty:TypeId) o n k qs,l.all flat1=true→qs.all flat=true→T l o n k qs→(U l o qs).all flat1=true ∧
   SW P [] c (sinit fn (.slice (some ⟨0,o,none⟩) n k :: qs),[some ⟨l,⟨ty,(0,0)⟩⟩]) fun e s=>(e = .normal∨e = .ret)∧s.1.defers = [] ∧ ∃ v x,sres P fn s=some v∧(flat v=true∨v=undef)∧s.2 = [some ⟨U l o qs,⟨ty,(0,0)⟩⟩] ++ x∧v = .tuple #[]) :
  (X.write f (gW1 T U)).Ok P:=by
 refine Cx.write_ok hX (fun args m ps v m' hg hp r w args' hr hgl ha => ?_)
 unfold gW1 at hg
 split at hg
 ·rename_i b o n k qs
  split at hg
  ·rename_i hall
   cases hB:getB m b with
   | none=>simp [hB] at hg
   | some B =>
    simp only [hB] at hg
    split at hg
    case isFalse=>simp at hg
    rename_i hz
    simp only [Option.some.injEq,Prod.mk.injEq] at hg
    obtain ⟨rfl,rfl,rfl⟩:=hg
    have hfl:=hp _ (List.mem_cons_self)
    have hT:=hp _ (List.mem_cons_of_mem _ (List.mem_singleton.2 rfl))
    obtain ⟨h1,h2⟩:=h B.cells B.ty.id o n k qs hfl hall hT
    have hty:(⟨B.ty.id,(0,0)⟩:BT)=B.ty:=by rw [←hz]
    rw [hty] at h2
    obtain ⟨c0,cs,p1,p2,p3⟩:=hr.cells b B hB
    obtain ⟨v1,q1,e1,e2,rfl⟩:=trL_cons ha
    rw [tr_of_slice p1] at e1
    rw [trL_flat hall] at e2
    cases e1;cases e2
    have hR:=hr.one hB p1 p2 hfl
    have ha1:trL (tr (oneR0 c0)) (.slice (some ⟨0,o,none⟩) n k :: qs)=some (.slice (some ⟨c0,o,none⟩) n k :: qs):=trL_mk (tr_of_slice (by simp [oneR0])) (trL_flat hall)
    refine call_enter hf hname hb ((calls_of_SWm (m':=[some ⟨U B.cells o qs,B.ty⟩]) hf hb ?_ ?_ h2 hR (fun _ h=>absurd h List.not_mem_nil) ha1).mono ?_)
    ·intro k' B' hk
     have:=getB_lt hk
     simp at this;subst this
     simp [getB] at hk;subst hk
     exact ⟨⟨B,rfl⟩,h1⟩
    ·intro k' B' hk
     have:=getB_lt hk
     simp at this;subst this
     exact ⟨_,rfl⟩
    ·rintro e w' ⟨u,rfl,rfl,hr1,hfr⟩
     refine ⟨_,rfl,rfl,?_,?_⟩
     ·have hlt:=getB_lt hB
      refine ⟨fun b2 B2 hB2 => ?_,fun b2 c2 hc2 => ?_,hr.inj⟩
      ·rw [getB_set] at hB2
       split at hB2
       ·rename_i e
        obtain ⟨rfl,_⟩:=e
        cases hB2
        obtain ⟨c2,cs2,z1,z2,z3⟩:=hr1.cells 0 ⟨U B.cells o qs,B.ty⟩ rfl
        simp at z1;subst z1
        rw [trL_all (tr1_flat _) h1] at z2
        cases z2
        exact ⟨c0,_,p1,trL_all (tr1_flat r) h1,z3⟩
       ·rename_i e
        obtain ⟨c2,cs2,z1,z2,z3⟩:=hr.cells b2 B2 hB2
        refine ⟨c2,cs2,z1,z2,?_⟩
        rw [hfr.block c2 (hr.lt z1) (fun k' hk' => ?_)]
        ·exact z3
        ·split at hk'
         ·cases hk'
          exact e ⟨hr.inj b2 b c0 z1 p1,hlt⟩
         ·cases hk'
      ·rw [getB_set]
       by_cases e:b2=b
       ·rw [if_pos ⟨e,hlt⟩];exact ⟨_,rfl⟩
       ·rw [if_neg (fun x=>e x.1)];exact hr.full b2 c2 hc2
     ·refine ⟨hfr.os,hfr.tape,hfr.output,hfr.size,fun k' hk' hn=>hfr.block k' hk' (fun b2 hb2 => ?_)⟩
      split at hb2
      ·cases hb2;exact hn b p1
      ·cases hb2
  ·simp at hg
 ·simp at hg
theorem putL_len (l xs:List Value) (o:Nat) (h:o+xs.length≤l.length):(putL l o xs).length=l.length:=by
 unfold putL;simp;omega
theorem putL_putL (l xs ys:List Value) (o:Nat) (h:o+xs.length+ys.length≤l.length):putL (putL l o xs) (o+xs.length) ys=putL l o (xs ++ ys):=by
 unfold putL
 have e1:(l.take o ++ (xs ++ l.drop (o+xs.length))).take (o+xs.length)=l.take o ++ xs:=by
  rw [←List.append_assoc,List.take_left' (by simp;omega)]
 have e2:(l.take o ++ (xs ++ l.drop (o+xs.length))).drop (o+xs.length+ys.length)=l.drop (o+(xs ++ ys).length):=by
  rw [←List.drop_drop,←List.append_assoc,List.drop_left' (by simp;omega),List.drop_drop]
  congr 1;simp;omega
 rw [e1,e2];simp
theorem putL_all (l xs:List Value) (o:Nat) (p:Value→Bool) (hl:l.all p=true) (hx:xs.all p=true):(putL l o xs).all p=true:=by
 unfold putL
 simp only [List.all_append,Bool.and_eq_true]
 refine ⟨?_,hx,?_⟩
 ·exact List.all_eq_true.2 fun v hv=>List.all_eq_true.1 hl v (List.mem_of_mem_take hv)
 ·exact List.all_eq_true.2 fun v hv=>List.all_eq_true.1 hl v (List.mem_of_mem_drop hv)
theorem putL_get_in (l xs:List Value) (o j:Nat) (h:o+xs.length≤l.length) (hj:j<xs.length):(putL l o xs)[o+j]? = xs[j]? := by
 unfold putL
 rw [List.getElem?_append_right (by simp;omega)]
 simp only [List.length_take]
 rw [show o+j - min o l.length=j by omega,List.getElem?_append_left hj]
theorem putL_get_out (l xs:List Value) (o i:Nat) (h:o+xs.length≤l.length) (hi:i<o∨o+xs.length≤i):(putL l o xs)[i]? = l[i]? := by
 unfold putL
 rcases hi with hi | hi
 ·rw [List.getElem?_append_left (by simp;omega),List.getElem?_take,if_pos hi]
 ·rw [List.getElem?_append_right (by simp;omega),List.getElem?_append_right (by simp;omega)]
  simp only [List.length_take,List.getElem?_drop]
  congr 1;omega
end Go.Proofs.YtlihbglpdkeppaaGreatDoor
