/- The reference's Sum512: its end and its contract. -/
import Derived.Test.YtlihbglpdkeppaaGreatDoorRfsD
import Derived.Test.YtlihbglpdkeppaaGreatDoorCatA
set_option linter.unusedSimpArgs false
set_option linter.unusedVariables false
namespace Go.Proofs.YtlihbglpdkeppaaGreatDoor.Shf
open Go Go.RowKit
variable {H:Ren→World→Prop} {Q:Exit→Act × Mem→Prop}
def W64r (x:Int):Prop:=0≤x∧x<18446744073709551616
structure Rng (h:S8):Prop where
 a:W64r h.a
 b:W64r h.b
 c:W64r h.c
 d:W64r h.d
 e:W64r h.e
 f:W64r h.f
 g:W64r h.g
 h:W64r h.h
theorem add64_r (x y:Int):W64r (add64 x y):=by unfold add64 W64r;rw [IntKind.wrap_u64];omega
theorem blk_r (p:Nat→Int) (j:Nat):Rng (blk p (j+1)):=⟨add64_r _ _,add64_r _ _,add64_r _ _,add64_r _ _,add64_r _ _,add64_r _ _,add64_r _ _,add64_r _ _⟩
theorem row_w (h:S8) (hr:Rng h) {k:Nat} (hk:k<8) : ∃ x,(rowS h)[k]? = some (.int .u64 x)∧W64r x ∧ ∀ b,b<8→(out64 h)[8*k+b]? = (by64 x)[b]? := by
 have hb : ∀ b:Nat,b<8→b=0∨b=1∨b=2∨b=3∨b=4∨b=5∨b=6∨b=7:=fun b h=>by omega
 rcases hb k hk with rfl | rfl | rfl | rfl | rfl | rfl | rfl | rfl
 ·exact ⟨h.a,rfl,hr.a,fun b h=>by rcases hb b h with rfl | rfl | rfl | rfl | rfl | rfl | rfl | rfl <;> rfl⟩
 ·exact ⟨h.b,rfl,hr.b,fun b h=>by rcases hb b h with rfl | rfl | rfl | rfl | rfl | rfl | rfl | rfl <;> rfl⟩
 ·exact ⟨h.c,rfl,hr.c,fun b h=>by rcases hb b h with rfl | rfl | rfl | rfl | rfl | rfl | rfl | rfl <;> rfl⟩
 ·exact ⟨h.d,rfl,hr.d,fun b h=>by rcases hb b h with rfl | rfl | rfl | rfl | rfl | rfl | rfl | rfl <;> rfl⟩
 ·exact ⟨h.e,rfl,hr.e,fun b h=>by rcases hb b h with rfl | rfl | rfl | rfl | rfl | rfl | rfl | rfl <;> rfl⟩
 ·exact ⟨h.f,rfl,hr.f,fun b h=>by rcases hb b h with rfl | rfl | rfl | rfl | rfl | rfl | rfl | rfl <;> rfl⟩
 ·exact ⟨h.g,rfl,hr.g,fun b h=>by rcases hb b h with rfl | rfl | rfl | rfl | rfl | rfl | rfl | rfl <;> rfl⟩
 ·exact ⟨h.h,rfl,hr.h,fun b h=>by rcases hb b h with rfl | rfl | rfl | rfl | rfl | rfl | rfl | rfl <;> rfl⟩
theorem d8_nat {i:Nat} (h:i<64):d8 (i:Int)=((i/8:Nat):Int):=by
 unfold d8
 rw [Int.tdiv_eq_ediv_of_nonneg (by omega),wrap_i64 (by omega) (by omega)];omega
theorem s8_nat {i:Nat} (h:i<64):s8 (i:Int)=((8*(7 - i % 8):Nat):Int):=by
 unfold s8
 rw [Int.tmod_eq_emod_of_nonneg (by omega),wrap_i64 (i:=8*((i:Int) % 8)) (by omega) (by omega),wrap_i64 (by omega) (by omega),IntKind.wrap_u64]
 omega
theorem ob_eq (h:S8) (hr:Rng h) {i:Nat} (hi:i<64):(out64 h)[i]? = some (.int .u8 (oB h (i:Int)))∧(rowS h)[at0 (d8 (i:Int))]? = some (.int .u64 (intL (rowS h) (at0 (d8 (i:Int))))):=by
 obtain ⟨x,h1,h2,h3⟩:=row_w h hr (k:=i/8) (by omega)
 have e1:at0 (d8 (i:Int))=i/8:=by rw [d8_nat hi,at0_nat]
 have e2:intL (rowS h) (i/8)=x:=by unfold intL;rw [h1]
 have hx:x=((x.toNat:Nat):Int):=by have:=h2.1;omega
 have hb:i % 8<8:=Nat.mod_lt _ (by decide)
 refine ⟨?_,by rw [e1,e2];exact h1⟩
 have e3:=h3 (i % 8) hb
 rw [show 8*(i/8)+i % 8=i by omega] at e3
 rw [e3,by64_at x hb]
 congr 2
 unfold oB
 rw [e1,e2,s8_nat hi]
 have hl:=lb_eq (x:=x.toNat) (i:=7 - i % 8) (by have:=h2.2;omega) (by omega)
 rw [←hx,show 7 - (7 - i % 8)=i % 8 by omega] at hl
 rw [←hl]
 unfold lb sc
 rw [wrap_i64 (by omega) (by omega),IntKind.wrap_u64]
 congr 4
 omega
def oR (h:S8) (i:Nat):List Value:=(out64 h).take i ++ List.replicate (64 - i) (.int .u8 0)
theorem oR_len (h:S8) {i:Nat} (hi:i≤64):(oR h i).length=64:=by
 have:(out64 h).length=64:=rfl
 unfold oR
 rw [List.length_append,List.length_take,List.length_replicate];omega
theorem oR_put (h:S8) {i:Nat} (hi:i<64) {v:Value} (hv:(out64 h)[i]? = some v):putL (oR h i) i [v]=oR h (i+1):=by
 have hl:(out64 h).length=64:=rfl
 have ht:((out64 h).take i).length=i:=by rw [List.length_take];omega
 unfold putL oR
 rw [List.take_left' ht,List.length_singleton,List.drop_append,ht,List.drop_eq_nil_of_le (by omega),List.nil_append,show i+1 - i=1 by omega,List.drop_replicate,List.take_add_one,hv,show 64 - i - 1=64 - (i+1) by omega]
 simp
theorem rs_f {n cap:Nat} {q:List Value} (a:Int) (h:S8) (hr:Rng h) (i:Nat) (hi:i<64) {s:Act × Mem} (hin:In H (hdE n cap q a h (oR h i) (i:Int)) s) :
  SWn H Tryz.prog [] (mF (bodyOf Tryz.f36)) s (thenS (fun s'=>In H (hdE n cap q a h (oR h (i+1)) ((i+1:Nat):Int)) s') Q):=by
 refine hin _ _ ?_
 obtain ⟨h1,h2⟩:=ob_eq h hr hi
 obtain ⟨z,hz,he⟩:=proj_some (rs_F n cap q a h (oR h i) (i:Int))
 refine SWn.runG (Qt_ok _) mixed (Qt_gl _) 40 hz (fun pp hp => ?_) (thenS_norm (forget_into fE ?_))
 ·unfold rsFT at hp
  simp only [List.mem_cons,List.not_mem_nil,or_false] at hp
  rcases hp with rfl | rfl | rfl | rfl | rfl | rfl
  ·exact decide_eq_true (by omega)
  ·rw [d8_nat hi];omega
  ·exact h2
  ·rw [s8_nat hi];omega
  ·omega
  ·exact ⟨by trivial,by rw [at0_nat,oR_len h (by omega)];omega⟩
 ·refine Eq.trans he ?_
  rw [at0_nat,oR_put h hi h1,wrap_i64 (by omega) (by omega)]
  rfl
theorem oR_0 (h:S8):oR h 0=z64:=by kernel_rfl
theorem oR_64 (h:S8):oR h 64=out64 h:=by kernel_rfl
theorem padB_rng {n:Nat} {y:Nat→Int} (hy : ∀ i,i<n→0≤y i∧y i<256) (N i:Nat) (hi:i<N):0≤padB n y N i∧padB n y N i<256:=by
 unfold padB
 split
 ·exact hy i (by assumption)
 ·split
  ·omega
  ·split
   ·omega
   ·have hb:i - (N - 8)<8:=by omega
    have:=by64_at ((8*n:Nat):Int) hb
    generalize i - (N - 8)=b at *
    have hb':b=0∨b=1∨b=2∨b=3∨b=4∨b=5∨b=6∨b=7:=by omega
    have w : ∀ x:Int,0≤IntKind.u8.wrap x∧IntKind.u8.wrap x<256:=fun x=>by rw [IntKind.wrap_u8];omega
    rcases hb' with rfl | rfl | rfl | rfl | rfl | rfl | rfl | rfl <;> exact w _
def rsH (v:Sv) (y:Nat→Int) (r₀:Ren) (w₀:World):Prop:=Low 0 r₀∧WSrc v.val v.n (rowP y v.n) w₀∧apart r₀ v.val
theorem rs_body {v:Sv} {y:Nat→Int} (hsz:v.n+400≤140737488355328) (hy : ∀ i,i<v.n→0≤y i∧y i<256) :
  SWn (rsH v y) Tryz.prog [] (bodyOf Tryz.f36) (rs0 Tryz.f36 v) fun e s=>(e = .normal∨e = .ret)∧s.1.defers = [] ∧ ∃ u,sres Tryz.prog Tryz.f36 s=some u∧(flat u=true∨u=undef)∧(∀ i B,getB ([]:Mem) i=some B→getB s.2 i=some B)∧u = .agg (out64 (sumB v.n y)).toArray:=by
 rw [rs_code]
 have hnb:128*nb v.n≤v.n+144:=by unfold nb;omega
 have hnb1:1≤nb v.n:=by unfold nb;omega
 refine SWn.preG Q0_ok mixed Q0_gl rfl (rs_1 v) (by simp) (SWn.seq ?_)
 rw [show m3 (bodyOf Tryz.f36) = .region (rId (m3 (bodyOf Tryz.f36))) (rOps (m3 (bodyOf Tryz.f36))) false from (by kernel_rfl)]
 refine SWn.region ?_
 rw [show List.range (rOps (m3 (bodyOf Tryz.f36))).size = [0] ++ (1 :: ([2] ++ [])) from (by kernel_rfl)]
 refine SWL.steps Q0_ok Q0_gl (by simp) ?_ [0] [] _ (rs_2 v)
 refine Cat.SWL.callR (c:=m3 (bodyOf Tryz.f36)) (d:=25) (f:=84) (args := #[.tmp 24,.const (.int .i64 128),.const (.int .i64 16)]) (ts := #[23,3,3]) (n:=128*nb v.n) (e:=5) (R:=fun cap q=>OwnRow (rowP (padB v.n y (128*nb v.n)) (128*nb v.n)) cap q) (by kernel_rfl) ?_ ?_
 ·intro r₀ w₀ A w r hH S
  have e1:=S.eval (rs_2o v)
  rw [rs_2e] at e1
  have e2:=tr_raw e1
  rw [show (#[Operand.tmp 24,Operand.const (.int .i64 128),Operand.const (.int .i64 16)]:Array Operand).map A.eval = #[A.eval (.tmp 24),A.eval (.const (.int .i64 128)),A.eval (.const (.int .i64 16))] by simp,e2]
  exact pd_calls v y hsz w (hH.2.1.fr hH.2.2 S.fr)
 ·intro cap q hqf hrow
  have hm:=rs_2m v
  rw [hm,show rsB.length=3 from rfl]
  refine SWL.steps Q0_ok Q0_gl (by simp) (SWL.nil ?_) [2] [] _ (rs_3 v (128*nb v.n) cap q)
  refine SWn.seq ?_
  refine SWn.preG Q0_ok mixed Q0_gl (cs:=[m4 (bodyOf Tryz.f36)]) rfl (rs_4 v (128*nb v.n) cap q) (by simp) (SWn.block ?_)
  generalize hp:padB v.n y (128*nb v.n)=p at *
  have hq:Bts q (128*nb v.n) p:=by
   refine ⟨fun i hi => ?_,fun i hi=>by rw [←hp];exact padB_rng hy _ i hi⟩
   have e:=hrow.eq
   rw [rowP_len] at e
   have e2:(q.take (128*nb v.n))[i]? = (rowP p (128*nb v.n))[i]? := by rw [e]
   rw [List.getElem?_take,if_pos hi,rowP_get p hi] at e2
   exact e2
  have i0:In (rsH v y) (hd0 (128*nb v.n) cap q ((128*0:Nat):Int) (blk p 0)) (rs4 Tryz.prog Tryz.f36 v (128*nb v.n) cap q):=forget_into f0 (rs_4k v (128*nb v.n) cap q)
  refine SWn.loopK rfl (fun j s=>In (rsH v y) (hd0 (128*nb v.n) cap q ((128*j:Nat):Int) (blk p j)) s) 0 (nb v.n) i0 (by omega) (fun j s _ hj hin=>rs_blk (fun r₀ w₀ h=>h.1) hqf hq j (by omega) (by omega) hin) (fun s hin => ?_)
  have hr:Rng (blk p (nb v.n)):=by
   obtain ⟨j,hj⟩ : ∃ j,nb v.n=j+1:=⟨nb v.n - 1,by omega⟩
   rw [hj];exact blk_r p j
  have hsum:blk p (nb v.n)=sumB v.n y:=by unfold sumB;rw [←hp]
  rw [hsum] at hin hr
  generalize sumB v.n y=g at *
  refine hin _ _ (SWn.runG (Qt_ok _) mixed (Qt_gl _) 30 (rs_x (128*nb v.n) cap q _ g) (fun pp hp=>by rw [List.mem_singleton.1 hp];exact decide_eq_false (by omega)) (thenS_exit (blockS_exit (thenS_norm ?_))))
  refine forget_into f0 (rs_xk (128*nb v.n) cap q _ g) _ _ ?_
  refine SWn.preG Q0_ok mixed Q0_gl (cs:=[m37 (bodyOf Tryz.f36)]) rfl (rs_37 (128*nb v.n) cap q _ g) (by simp) (SWn.seq ?_)
  refine SWn.preG Q0_ok mixed Q0_gl (cs:=[m38 (bodyOf Tryz.f36)]) rfl (rs_38 (128*nb v.n) cap q _ g) (by simp) (SWn.block ?_)
  have i1:In (rsH v y) (hdE (128*nb v.n) cap q ((128*nb v.n:Nat):Int) g (oR g 0) ((0:Nat):Int)) (rs38 Tryz.prog Tryz.f36 (128*nb v.n) cap q ((128*nb v.n:Nat):Int) g):=by
   rw [oR_0];exact forget_into fE (rs_38k (128*nb v.n) cap q _ g)
  refine SWn.loopK rfl (fun i s=>In (rsH v y) (hdE (128*nb v.n) cap q ((128*nb v.n:Nat):Int) g (oR g i) (i:Int)) s) 0 64 i1 (by omega) (fun i s _ hi hin=>rs_f _ g hr i hi hin) (fun s hin => ?_)
  rw [oR_64] at hin
  refine hin _ _ (SWn.runG (Qt_ok _) mixed (Qt_gl _) 40 (rs_FX (128*nb v.n) cap q _ g _ ((64:Nat):Int)) (fun pp hp=>by rw [List.mem_singleton.1 hp];rfl) (thenS_exit (blockS_exit (thenS_norm ?_))))
  refine forget_into fE (rs_FXk (128*nb v.n) cap q _ g _ ((64:Nat):Int)) _ _ ?_
  exact SWn.runG Q0_ok mixed Q0_gl 40 (rs_Z (128*nb v.n) cap q _ g g ((64:Nat):Int)) (by simp) ⟨.inr rfl,rs_Zd (128*nb v.n) cap q _ g g _,_,rs_Zr (128*nb v.n) cap q _ g g _,.inl (by kernel_rfl),fun i B h=>by simp [getB] at h,rfl⟩
theorem rsum_calls (v:Sv) (y:Nat→Int) (hsz:v.n+400≤140737488355328) (hy : ∀ i,i<v.n→0≤y i∧y i<256) (w:World) (hw:WSrc v.val v.n (rowP y v.n) w) :
  CallOK Tryz.prog 36 #[v.val] w fun v' w'=>v' = .agg (out64 (sumB v.n y)).toArray∧Below w.heap.size w w':=by
 have hap:apart (fun _=>none) v.val:=by
  unfold apart Sv.val
  cases v.x with
  | none=>trivial
  | some a=>exact .inr (fun b h=>by cases h)
 refine call_enter Tryz.func36 (by kernel_rfl) (show _=some (bodyOf Tryz.f36) from (by kernel_rfl)) ?_
 refine (calls_of_SWn (H:=rsH v y) (gl:=[]) (m:=[]) (args:=[raw v.val]) (R:=fun u=>u = .agg (out64 (sumB v.n y)).toArray) Tryz.func36 (by kernel_rfl) (rs_body hsz hy) (Rel.nil w) ⟨fun b c h=>(by cases h),hw,hap⟩ (fun g hg=>by cases hg) (trL_mk rfl rfl)).mono ?_
 rintro e w' ⟨u,rfl,rfl,hbel⟩
 exact ⟨_,rfl,rfl,hbel⟩
end Go.Proofs.YtlihbglpdkeppaaGreatDoor.Shf
namespace Go.Proofs.YtlihbglpdkeppaaGreatDoor.Cat
open Go Go.RowKit
variable {H:Ren→World→Prop} {Q:Exit→Act × Mem→Prop}
def jA (p:Nat) (x3 x4:Value) (t:Int):Act:=⟨#[sl0 p,poison,poison,x3,x4,poison,.int .i64 (p:Int),.int .i64 t] ++ Array.replicate 10 poison,[]⟩
def jF:List Nat:=[1,2,4,5] ++ (List.range 10).map (· + 8)
def jFb:List Nat:=[1,2,5] ++ (List.range 10).map (· + 8)
def j0 (c:Code):List Code:=[cL c,cL (cR c)]
def j2 (c:Code):Code:=cL (cL (cR (cR c)))
def jL (c:Code):Code:=cL (cL (cR (cL (cR (cR c)))))
def j3 (c:Code):List Code:=[cL (jL c),cL (cR (jL c))]
def j4 (c:Code):Code:=cL (cL (cL (cR (cR (jL c)))))
def j5 (c:Code):Code:=cR (cL (cL (cR (cR (jL c)))))
def j6 (c:Code):Code:=cR (cR (cR (jL c)))
def j7 (c:Code):Code:=cR (cR (cR c))
theorem jn_code:bodyOf Tryz.f44=seqs (j0 (bodyOf Tryz.f44)) (.seq (.seq (j2 (bodyOf Tryz.f44)) (.block 0 (.loop (jL (bodyOf Tryz.f44))))) (j7 (bodyOf Tryz.f44))):=by kernel_rfl
theorem jn_l:jL (bodyOf Tryz.f44)=seqs (j3 (bodyOf Tryz.f44)) (.seq (.block 1 (.seq (j4 (bodyOf Tryz.f44)) (j5 (bodyOf Tryz.f44)))) (j6 (bodyOf Tryz.f44))):=by kernel_rfl
def nl:Value := .slice none 0 0
def jn0 (fn:Func) (ps:Parts) (ty:BT) (p:Nat):Act × Mem:=(sinit fn [sl0 p],catM ps ty)
def jn1 (P:Program) (fn:Func) (ps:Parts) (ty:BT) (p:Nat):Act × Mem:=runL P Nt 20 (j0 (bodyOf fn)) (jn0 fn ps ty p)
theorem jn_1 (ps:Parts) (ty:BT) (p:Nat):sexecL Tryz.prog Nt 20 (j0 (bodyOf Tryz.f44)) [] (jn0 Tryz.f44 ps ty p)=some ([],jn1 Tryz.prog Tryz.f44 ps ty p):=by kernel_rfl
def jn2 (P:Program) (fn:Func) (ps:Parts) (ty:BT) (p:Nat):Act × Mem:=runL P Nt 20 [j2 (bodyOf fn)] (jn1 P fn ps ty p)
theorem jn_2 (ps:Parts) (ty:BT) (p:Nat):sexecL Tryz.prog Nt 20 [j2 (bodyOf Tryz.f44)] [] (jn1 Tryz.prog Tryz.f44 ps ty p)=some ([],jn2 Tryz.prog Tryz.f44 ps ty p):=by kernel_rfl
theorem jn_2k (ps:Parts) (ty:BT) (p:Nat):(forgetL (jn2 Tryz.prog Tryz.f44 ps ty p).1 jF,(jn2 Tryz.prog Tryz.f44 ps ty p).2)=(jA p nl poison 0,catM ps ty):=by kernel_rfl
def jN3 (P:Program) (fn:Func) (ps:Parts) (ty:BT) (p:Nat) (t:Int):Act × Mem:=runL P (Ntt [(8,true)]) 20 (j3 (bodyOf fn)) (jA p nl poison t,(catM ps ty))
theorem jN_3 (ps:Parts) (ty:BT) (p:Nat) (t:Int):sexecL Tryz.prog (Ntt [(8,true)]) 20 (j3 (bodyOf Tryz.f44)) [] (jA p nl poison t,(catM ps ty))=some ([decide (t<(p:Int))=true],jN3 Tryz.prog Tryz.f44 ps ty p t):=by kernel_rfl
def jN4 (P:Program) (fn:Func) (ps:Parts) (ty:BT) (p:Nat) (t:Int):Act × Mem:=runL P Nt 20 [j4 (bodyOf fn)] (jN3 P fn ps ty p t)
theorem jN_4 (ps:Parts) (ty:BT) (p:Nat) (t:Int):sexecL Tryz.prog Nt 20 [j4 (bodyOf Tryz.f44)] [] (jN3 Tryz.prog Tryz.f44 ps ty p t)=some ([],jN4 Tryz.prog Tryz.f44 ps ty p t):=by kernel_rfl
theorem jN_4k (ps:Parts) (ty:BT) (p:Nat) (t:Int):(forgetL (jN4 Tryz.prog Tryz.f44 ps ty p t).1 jFb,(jN4 Tryz.prog Tryz.f44 ps ty p t).2)=(jA p nl (.int .i64 t) t,(catM ps ty)):=by kernel_rfl
def jN5 (P:Program) (fn:Func) (ps:Parts) (ty:BT) (p:Nat) (t:Int):Act × Mem:=ahead P Nt (j5 (bodyOf fn)) [0,1,2,3] (jA p nl (.int .i64 t) t,(catM ps ty))
theorem jN_5 (ps:Parts) (ty:BT) (p:Nat) (t:Int):sseq Tryz.prog Nt (rOps (j5 (bodyOf Tryz.f44))) ((jA p nl (.int .i64 t) t,(catM ps ty)).2.length) [0,1,2,3] [] ((jA p nl (.int .i64 t) t,(catM ps ty)).1,(jA p nl (.int .i64 t) t,(catM ps ty)).2 ++ List.replicate ((rOps (j5 (bodyOf Tryz.f44))).toList.filter makes).length none)=some ([0≤t∧t<(p:Int)],jN5 Tryz.prog Tryz.f44 ps ty p t):=by kernel_rfl
theorem jN_5o (ps:Parts) (ty:BT) (p:Nat) (t:Int):okX [] (jN5 Tryz.prog Tryz.f44 ps ty p t).1.eval (.tmp 13)=true:=by kernel_rfl
theorem jN_5e (ps:Parts) (ty:BT) (p:Nat) (t:Int):(jN5 Tryz.prog Tryz.f44 ps ty p t).1.eval (.tmp 13) = .pointer (some ⟨0,at0 t,none⟩):=by kernel_rfl
theorem jN_5m (ps:Parts) (ty:BT) (p:Nat) (t:Int):(jN5 Tryz.prog Tryz.f44 ps ty p t).2=(catM ps ty):=by kernel_rfl
def jN6 (P:Program) (fn:Func) (ps:Parts) (ty:BT) (p:Nat) (t:Int) (v:Sv):Act × Mem:=((jN5 P fn ps ty p t).1.put (some 14) (raw v.val),(catM ps ty))
theorem jN_pre (ps:Parts) (ty:BT) (p:Nat) (t:Nat) {q:Sv × List Value} (hq:ps[t]? = some q) (ht:t<p) : ∀ Q',SWL H Tryz.prog [] (rOps (j5 (bodyOf Tryz.f44))) (5 :: [6]) (jN6 Tryz.prog Tryz.f44 ps ty p (t:Int) q.1) Q'→SWL H Tryz.prog [] (rOps (j5 (bodyOf Tryz.f44))) (List.range (rOps (j5 (bodyOf Tryz.f44))).size) ((jA p nl (.int .i64 (t:Int)) (t:Int),(catM ps ty)).1,(jA p nl (.int .i64 (t:Int)) (t:Int),(catM ps ty)).2 ++ List.replicate ((rOps (j5 (bodyOf Tryz.f44))).toList.filter makes).length none) Q':=by
 intro Q' hq'
 rw [show List.range (rOps (j5 (bodyOf Tryz.f44))).size = [0,1,2,3] ++ (4 :: (5 :: [6])) from (by kernel_rfl)]
 refine SWL.steps Nt_ok Nt_gl (fun p hp=>by rw [List.mem_singleton.1 hp];omega) ?_ [0,1,2,3] [] _ (jN_5 ps ty p (t:Int))
 refine SWL.loadR (c:=j5 (bodyOf Tryz.f44)) (d:=14) (t:=23) (x := .tmp 13) (by kernel_rfl) (jN_5o ps ty p _) (jN_5e ps ty p _) (v:=raw q.1.val) ?_ ?_
 ·rw [jN_5m,at0_nat]
  exact sload_one (B:=⟨catC ps,ty⟩) rfl row_t (catC_get hq)
 ·rw [jN_5m];exact hq'
def jR3 (P:Program) (fn:Func) (ps:Parts) (ty:BT) (p k cap:Nat) (cells:List Value) (t:Int):Act × Mem:=runL P (Ntt [(8,true)]) 20 (j3 (bodyOf fn)) (jA p (own1 k cap) poison t,(cM2 ps ty cells))
theorem jR_3 (ps:Parts) (ty:BT) (p k cap:Nat) (cells:List Value) (t:Int):sexecL Tryz.prog (Ntt [(8,true)]) 20 (j3 (bodyOf Tryz.f44)) [] (jA p (own1 k cap) poison t,(cM2 ps ty cells))=some ([decide (t<(p:Int))=true],jR3 Tryz.prog Tryz.f44 ps ty p k cap cells t):=by kernel_rfl
def jR4 (P:Program) (fn:Func) (ps:Parts) (ty:BT) (p k cap:Nat) (cells:List Value) (t:Int):Act × Mem:=runL P Nt 20 [j4 (bodyOf fn)] (jR3 P fn ps ty p k cap cells t)
theorem jR_4 (ps:Parts) (ty:BT) (p k cap:Nat) (cells:List Value) (t:Int):sexecL Tryz.prog Nt 20 [j4 (bodyOf Tryz.f44)] [] (jR3 Tryz.prog Tryz.f44 ps ty p k cap cells t)=some ([],jR4 Tryz.prog Tryz.f44 ps ty p k cap cells t):=by kernel_rfl
theorem jR_4k (ps:Parts) (ty:BT) (p k cap:Nat) (cells:List Value) (t:Int):(forgetL (jR4 Tryz.prog Tryz.f44 ps ty p k cap cells t).1 jFb,(jR4 Tryz.prog Tryz.f44 ps ty p k cap cells t).2)=(jA p (own1 k cap) (.int .i64 t) t,(cM2 ps ty cells)):=by kernel_rfl
def jR5 (P:Program) (fn:Func) (ps:Parts) (ty:BT) (p k cap:Nat) (cells:List Value) (t:Int):Act × Mem:=ahead P Nt (j5 (bodyOf fn)) [0,1,2,3] (jA p (own1 k cap) (.int .i64 t) t,(cM2 ps ty cells))
theorem jR_5 (ps:Parts) (ty:BT) (p k cap:Nat) (cells:List Value) (t:Int):sseq Tryz.prog Nt (rOps (j5 (bodyOf Tryz.f44))) ((jA p (own1 k cap) (.int .i64 t) t,(cM2 ps ty cells)).2.length) [0,1,2,3] [] ((jA p (own1 k cap) (.int .i64 t) t,(cM2 ps ty cells)).1,(jA p (own1 k cap) (.int .i64 t) t,(cM2 ps ty cells)).2 ++ List.replicate ((rOps (j5 (bodyOf Tryz.f44))).toList.filter makes).length none)=some ([0≤t∧t<(p:Int)],jR5 Tryz.prog Tryz.f44 ps ty p k cap cells t):=by kernel_rfl
theorem jR_5o (ps:Parts) (ty:BT) (p k cap:Nat) (cells:List Value) (t:Int):okX [] (jR5 Tryz.prog Tryz.f44 ps ty p k cap cells t).1.eval (.tmp 13)=true:=by kernel_rfl
theorem jR_5e (ps:Parts) (ty:BT) (p k cap:Nat) (cells:List Value) (t:Int):(jR5 Tryz.prog Tryz.f44 ps ty p k cap cells t).1.eval (.tmp 13) = .pointer (some ⟨0,at0 t,none⟩):=by kernel_rfl
theorem jR_5m (ps:Parts) (ty:BT) (p k cap:Nat) (cells:List Value) (t:Int):(jR5 Tryz.prog Tryz.f44 ps ty p k cap cells t).2=(cM2 ps ty cells):=by kernel_rfl
def jR6 (P:Program) (fn:Func) (ps:Parts) (ty:BT) (p k cap:Nat) (cells:List Value) (t:Int) (v:Sv):Act × Mem:=((jR5 P fn ps ty p k cap cells t).1.put (some 14) (raw v.val),(cM2 ps ty cells))
theorem jR_pre (ps:Parts) (ty:BT) (p k cap:Nat) (cells:List Value) (t:Nat) {q:Sv × List Value} (hq:ps[t]? = some q) (ht:t<p) : ∀ Q',SWL H Tryz.prog [] (rOps (j5 (bodyOf Tryz.f44))) (5 :: [6]) (jR6 Tryz.prog Tryz.f44 ps ty p k cap cells (t:Int) q.1) Q'→SWL H Tryz.prog [] (rOps (j5 (bodyOf Tryz.f44))) (List.range (rOps (j5 (bodyOf Tryz.f44))).size) ((jA p (own1 k cap) (.int .i64 (t:Int)) (t:Int),(cM2 ps ty cells)).1,(jA p (own1 k cap) (.int .i64 (t:Int)) (t:Int),(cM2 ps ty cells)).2 ++ List.replicate ((rOps (j5 (bodyOf Tryz.f44))).toList.filter makes).length none) Q':=by
 intro Q' hq'
 rw [show List.range (rOps (j5 (bodyOf Tryz.f44))).size = [0,1,2,3] ++ (4 :: (5 :: [6])) from (by kernel_rfl)]
 refine SWL.steps Nt_ok Nt_gl (fun p hp=>by rw [List.mem_singleton.1 hp];omega) ?_ [0,1,2,3] [] _ (jR_5 ps ty p k cap cells (t:Int))
 refine SWL.loadR (c:=j5 (bodyOf Tryz.f44)) (d:=14) (t:=23) (x := .tmp 13) (by kernel_rfl) (jR_5o ps ty p k cap cells _) (jR_5e ps ty p k cap cells _) (v:=raw q.1.val) ?_ ?_
 ·rw [jR_5m,at0_nat]
  exact sload_one (B:=⟨catC ps,ty⟩) rfl row_t (catC_get hq)
 ·rw [jR_5m];exact hq'
def JQ (H:Ren→World→Prop) (ps:Parts) (ty:BT) (p k:Nat) (y:List Value) (t:Int) (s':Act × Mem):Prop := ∃ cap' cells',OwnRow y cap' cells'∧Into H Tryz.prog [] (jA p (own1 k cap') poison t,cM2 ps ty cells') s'
theorem jR_ap (ps:Parts) (ty:BT) (p:Nat) (t:Nat) (hlow : ∀ r₀ w₀,H r₀ w₀→Low 1 r₀) {y cells:List Value} {k cap:Nat} {q:Sv × List Value} (hq:ps[t]? = some q) (ht:t<p) (hk:y.length=k) (hrow:OwnRow y cap cells) (hf:q.2.all flat1=true) (hl:q.2.length=q.1.n) (hH : ∀ r₀ w₀,H r₀ w₀→WSrc q.1.val q.1.n q.2 w₀∧apart r₀ q.1.val) (hsize:k+q.1.n≤140737488355328) :
  SWn H Tryz.prog [] (j5 (bodyOf Tryz.f44)) (jA p (own1 k cap) (.int .i64 (t:Int)) (t:Int),cM2 ps ty cells) (thenS (JQ H ps ty p (k+q.1.n) (y ++ q.2) (t:Int)) Q):=by
 have hx:(jR6 Tryz.prog Tryz.f44 ps ty p k cap cells (t:Int) q.1).1.eval (.tmp 14)=raw q.1.val:=by kernel_rfl
 have hs:SrcS H Tryz.prog 23 (jR6 Tryz.prog Tryz.f44 ps ty p k cap cells (t:Int) q.1).2 ((jR6 Tryz.prog Tryz.f44 ps ty p k cap cells (t:Int) q.1).1.eval (.tmp 14)) q.1.n q.2:=by
  rw [hx]
  exact SrcS.raw byteT.ht hf hH
 exact SWn.appG (n0:=1) (j:=1) (d:=3) (h0:=2) (F:=jF) (A1:=fun cap'=>jA p (own1 (k+q.1.n) cap') poison (t:Int)) (mb:=catM ps ty) (post:=[6]) (i:=5) (ds:=15) (sx := .tmp 10) (xx := .tmp 14) Nt_ok Nt_gl byteT (by kernel_rfl) (by kernel_rfl) (jR_pre ps ty p k cap cells t hq ht) hk (by kernel_rfl) (by kernel_rfl) (by kernel_rfl) hrow (by kernel_rfl) hs hl hsize (fun _ _ _=>by kernel_rfl) (fun _ _=>by kernel_rfl) (fun _ _=>by kernel_rfl) (fun _ _=>by kernel_rfl) (fun _ _=>by kernel_rfl) (by kernel_rfl) (catM_R ps ty) hlow (Nat.le_refl _) (fun g hg=>by cases hg)
theorem jN_ap (ps:Parts) (ty:BT) (p:Nat) (t:Nat) (hlow : ∀ r₀ w₀,H r₀ w₀→Low 1 r₀) {q:Sv × List Value} (hq:ps[t]? = some q) (ht:t<p) (hf:q.2.all flat1=true) (hl:q.2.length=q.1.n) (hH : ∀ r₀ w₀,H r₀ w₀→WSrc q.1.val q.1.n q.2 w₀∧apart r₀ q.1.val) (hpos:0<q.1.n) (hsize:q.1.n≤140737488355328) :
  SWn H Tryz.prog [] (j5 (bodyOf Tryz.f44)) (jA p nl (.int .i64 (t:Int)) (t:Int),catM ps ty) (thenS (JQ H ps ty p q.1.n q.2 (t:Int)) Q):=by
 have hx:(jN6 Tryz.prog Tryz.f44 ps ty p (t:Int) q.1).1.eval (.tmp 14)=raw q.1.val:=by kernel_rfl
 have hs:SrcS H Tryz.prog 23 (jN6 Tryz.prog Tryz.f44 ps ty p (t:Int) q.1).2 ((jN6 Tryz.prog Tryz.f44 ps ty p (t:Int) q.1).1.eval (.tmp 14)) q.1.n q.2:=by
  rw [hx]
  exact SrcS.raw byteT.ht hf hH
 exact SWn.appG0 (n0:=1) (j:=1) (d:=3) (h0:=1) (F:=jF) (A1:=fun cap'=>jA p (own1 q.1.n cap') poison (t:Int)) (mb:=catM ps ty) (post:=[6]) (i:=5) (ds:=15) (sx := .tmp 10) (xx := .tmp 14) Nt_ok Nt_gl byteT (by kernel_rfl) (by kernel_rfl) (jN_pre ps ty p t hq ht) (by kernel_rfl) (by kernel_rfl) (by kernel_rfl) hs hl hpos hsize (fun _ _ _=>by kernel_rfl) (fun _ _=>by kernel_rfl) (fun _ _=>by kernel_rfl) (fun _ _=>by kernel_rfl) (fun _ _=>by kernel_rfl) (Nat.le_refl _) (by kernel_rfl) (catM_R ps ty) hlow (Nat.le_refl _) (fun g hg=>by cases hg)
theorem j_6 (ps:Parts) (ty:BT) (p k cap:Nat) (cells:List Value) (t:Int):proj (fun s=>(forgetL s.1 jF,s.2)) (sexec Tryz.prog Nt 20 (j6 (bodyOf Tryz.f44)) [] (jA p (own1 k cap) poison t,cM2 ps ty cells))=some ([],(jA p (own1 k cap) poison (IntKind.i64.wrap (t+1)),cM2 ps ty cells)):=by kernel_rfl
def jnX (P:Program) (fn:Func) (ps:Parts) (ty:BT) (p k cap:Nat) (cells:List Value) (t:Int):Act × Mem:=runS P (Ntt [(8,false)]) 20 (jL (bodyOf fn)) (jA p (own1 k cap) poison t,cM2 ps ty cells)
theorem jn_x (ps:Parts) (ty:BT) (p k cap:Nat) (cells:List Value) (t:Int):sexec Tryz.prog (Ntt [(8,false)]) 20 (jL (bodyOf Tryz.f44)) [] (jA p (own1 k cap) poison t,cM2 ps ty cells)=some ([decide (t<(p:Int))=false],.exit 0,jnX Tryz.prog Tryz.f44 ps ty p k cap cells t):=by kernel_rfl
theorem jn_xk (ps:Parts) (ty:BT) (p k cap:Nat) (cells:List Value) (t:Int):(forgetL (jnX Tryz.prog Tryz.f44 ps ty p k cap cells t).1 jF,(jnX Tryz.prog Tryz.f44 ps ty p k cap cells t).2)=(jA p (own1 k cap) poison t,cM2 ps ty cells):=by kernel_rfl
def jnE (P:Program) (fn:Func) (ps:Parts) (ty:BT) (p k cap:Nat) (cells:List Value) (t:Int):Act × Mem:=runS P Nt 20 (j7 (bodyOf fn)) (jA p (own1 k cap) poison t,cM2 ps ty cells)
theorem jn_e (ps:Parts) (ty:BT) (p k cap:Nat) (cells:List Value) (t:Int):sexec Tryz.prog Nt 20 (j7 (bodyOf Tryz.f44)) [] (jA p (own1 k cap) poison t,cM2 ps ty cells)=some ([],.ret,jnE Tryz.prog Tryz.f44 ps ty p k cap cells t):=by kernel_rfl
theorem jn_er (ps:Parts) (ty:BT) (p k cap:Nat) (cells:List Value) (t:Int):sres Tryz.prog Tryz.f44 (jnE Tryz.prog Tryz.f44 ps ty p k cap cells t)=some (own1 k cap):=by kernel_rfl
theorem jn_ed (ps:Parts) (ty:BT) (p k cap:Nat) (cells:List Value) (t:Int):(jnE Tryz.prog Tryz.f44 ps ty p k cap cells t).1.defers = []:=by kernel_rfl
theorem jn_em (ps:Parts) (ty:BT) (p k cap:Nat) (cells:List Value) (t:Int):(jnE Tryz.prog Tryz.f44 ps ty p k cap cells t).2=cM2 ps ty cells:=by kernel_rfl
def JI (H:Ren→World→Prop) (ps:Parts) (ty:BT) (p:Nat) (t:Nat) (s:Act × Mem):Prop:=if t=0 then Into H Tryz.prog [] (jA p nl poison ((0:Nat):Int),catM ps ty) s else JQ H ps ty p (catN ps t) (catY ps t) (t:Int) s
theorem j_next (ps:Parts) (ty:BT) (p:Nat) (t:Nat) (ht:t<1000) {k:Nat} {y:List Value} (hk:k=catN ps (t+1)) (hy:y=catY ps (t+1)) {e:Exit} {s:Act × Mem} (h:thenS (JQ H ps ty p k y (t:Int)) (fun _ _=>False) e s) :
  blockS 1 (thenS (fun s'=>SWn H Tryz.prog [] (j6 (bodyOf Tryz.f44)) s' (thenS (JI H ps ty p (t+1)) Q)) (thenS (JI H ps ty p (t+1)) Q)) e s:=by
 obtain ⟨rfl,cap',cells',hrow',hin2⟩:=thenS_only h
 refine hin2 _ _ ?_
 obtain ⟨z,hz,he⟩:=proj_some (j_6 ps ty p k cap' cells' (t:Int))
 refine SWn.runG Nt_ok mixed Nt_gl 20 hz (by simp) (thenS_norm ?_)
 unfold JI
 rw [if_neg (by omega)]
 refine ⟨cap',cells',by rw [←hy];exact hrow',forget_into jF ?_⟩
 rw [←hk]
 rw [wrap64 (by omega) (by omega)] at he
 exact he
theorem j_r (ps:Parts) (hps:catOK ps) (hH : ∀ r₀ w₀,H r₀ w₀→catH ps r₀ w₀) (ty:BT) (p:Nat) (hp:p=ps.length) (hp2:p≤1000) (h0:0<catN ps 1) (hs:catN ps p≤140737488355328) (t:Nat) (ht:t<p) {s:Act × Mem} (hin:JI H ps ty p t s) :
  SWn H Tryz.prog [] (jL (bodyOf Tryz.f44)) s (thenS (JI H ps ty p (t+1)) Q):=by
 obtain ⟨q,hq⟩ : ∃ q,ps[t]? = some q:=⟨ps[t],by rw [List.getElem?_eq_getElem (by omega)]⟩
 have hqm:=List.mem_of_getElem? hq
 have hn:catN ps (t+1)=catN ps t+q.1.n:=by
  unfold catN;rw [catY_succ ps hq,List.length_append,(hps q hqm).2]
 have hm:=catY_mono ps (show t+1≤p from ht)
 unfold JI at hin
 by_cases h00:t=0
 ·subst h00
  rw [if_pos rfl] at hin
  have hz0:catN ps 0=0:=rfl
  have hy0:catY ps 0 = []:=rfl
  refine hin _ _ ?_
  rw [jn_l]
  refine SWn.preG (Ntt_ok _) mixed (Ntt_gl _) rfl (jN_3 ps ty p ((0:Nat):Int)) (fun p hp=>by rw [List.mem_singleton.1 hp];exact decide_eq_true (by omega)) (SWn.seq (SWn.block ?_))
  refine SWn.preG Nt_ok mixed Nt_gl (cs:=[j4 (bodyOf Tryz.f44)]) rfl (jN_4 ps ty p ((0:Nat):Int)) (by simp) ?_
  refine forget_into jFb (jN_4k ps ty p ((0:Nat):Int)) _ _ ?_
  refine (jN_ap (Q:=fun _ _=>False) ps ty p 0 (fun r₀ w₀ h=>(hH r₀ w₀ h).1) hq ht (hps q hqm).1 (hps q hqm).2 (fun r₀ w₀ h=>(hH r₀ w₀ h).2 q hqm) (by rw [Nat.zero_add] at hn;omega) (by rw [Nat.zero_add] at hn hm;omega)).mono fun e s h=>j_next ps ty p 0 (by omega) (by omega) ?_ h
  rw [catY_succ ps hq,hy0,List.nil_append]
 ·rw [if_neg h00] at hin
  obtain ⟨cap,cells,hrow,hin⟩:=hin
  refine hin _ _ ?_
  rw [jn_l]
  refine SWn.preG (Ntt_ok _) mixed (Ntt_gl _) rfl (jR_3 ps ty p _ cap cells (t:Int)) (fun p hp=>by rw [List.mem_singleton.1 hp];exact decide_eq_true (by omega)) (SWn.seq (SWn.block ?_))
  refine SWn.preG Nt_ok mixed Nt_gl (cs:=[j4 (bodyOf Tryz.f44)]) rfl (jR_4 ps ty p _ cap cells (t:Int)) (by simp) ?_
  refine forget_into jFb (jR_4k ps ty p _ cap cells (t:Int)) _ _ ?_
  exact (jR_ap (Q:=fun _ _=>False) ps ty p t (fun r₀ w₀ h=>(hH r₀ w₀ h).1) hq ht rfl hrow (hps q hqm).1 (hps q hqm).2 (fun r₀ w₀ h=>(hH r₀ w₀ h).2 q hqm) (by show catN ps t+q.1.n≤_;omega)).mono fun e s h=>j_next ps ty p t (by omega) hn.symm (catY_succ ps hq).symm h
theorem jn_body (ps:Parts) (hps:catOK ps) (hH : ∀ r₀ w₀,H r₀ w₀→catH ps r₀ w₀) (ty:BT) (p:Nat) (hp:p=ps.length) (hp1:1≤p) (hp2:p≤1000) (h0:0<catN ps 1) (hs:catN ps p≤140737488355328) :
  SWn H Tryz.prog [] (bodyOf Tryz.f44) (jn0 Tryz.f44 ps ty p) fun ex s=>(ex = .normal∨ex = .ret)∧s.1.defers = [] ∧ ∃ b cap q,sres Tryz.prog Tryz.f44 s=some (.slice (some ⟨b,0,none⟩) (catN ps p) cap)∧getB s.2 b=some ⟨q,⟨5,(0,0)⟩⟩∧(catM ps ty).length≤b∧q.all flat1=true∧OwnRow (catY ps p) cap q ∧ ∀ i B,getB (catM ps ty) i=some B→getB s.2 i=some B:=by
 rw [jn_code]
 refine SWn.preG Nt_ok mixed Nt_gl rfl (jn_1 ps ty p) (by simp) (SWn.seq ?_)
 refine SWn.preG Nt_ok mixed Nt_gl (cs:=[j2 (bodyOf Tryz.f44)]) rfl (jn_2 ps ty p) (by simp) (SWn.block ?_)
 have i0:JI H ps ty p 0 (jn2 Tryz.prog Tryz.f44 ps ty p):=by
  unfold JI
  rw [if_pos rfl]
  exact forget_into jF (jn_2k ps ty p)
 refine SWn.loopK rfl (fun t s=>JI H ps ty p t s) 0 p i0 (Nat.zero_le _) (fun t s _ ht hin=>j_r ps hps hH ty p hp hp2 h0 hs t ht hin) (fun s hin => ?_)
 unfold JI at hin
 rw [if_neg (by omega)] at hin
 obtain ⟨cap,cells,hrow,hin⟩:=hin
 refine hin _ _ (SWn.runG (Ntt_ok _) mixed (Ntt_gl _) 20 (jn_x ps ty p _ cap cells _) (fun p hp=>by rw [List.mem_singleton.1 hp];exact decide_eq_false (by omega)) (thenS_exit (blockS_exit (thenS_norm ?_))))
 refine forget_into jF (jn_xk ps ty p _ cap cells _) _ _ ?_
 exact SWn.runG Nt_ok mixed Nt_gl 20 (jn_e ps ty p _ cap cells _) (by simp) ⟨.inr rfl,jn_ed ps ty p _ cap cells _,1,cap,cells,jn_er ps ty p _ cap cells _,by rw [jn_em];rfl,Nat.le_refl _,hrow.flat,hrow,fun i B h=>by rw [jn_em];exact catM_get h⟩
theorem join_calls (ps:Parts) (hps:catOK ps) (hp1:1≤ps.length) (hp2:ps.length≤1000) (h0:0<catN ps 1) (hs:catN ps ps.length≤140737488355328) {w:World} {c:Nat} {ty:BT} (hw:w.heap[c]? = some (.cells (ps.map fun q=>q.1.val).toArray ty.id ty.fz)) (hsrc : ∀ q ∈ ps,WSrc q.1.val q.1.n q.2 w∧notAt c q.1.val) :
  CallOK Tryz.prog 44 #[.slice (some ⟨c,0,none⟩) ps.length ps.length] w fun v' w' => ∃ c cap q,v' = .slice (some ⟨c,0,none⟩) (catN ps ps.length) cap∧w.heap.size≤c∧w'.heap[c]? = some (.cells q.toArray 5 (0,0))∧q.all flat1=true∧OwnRow (catY ps ps.length) cap q∧Below w.heap.size w w':=by
 refine call_enter Tryz.func44 (by kernel_rfl) (show _=some (bodyOf Tryz.f44) from (by kernel_rfl)) ?_
 exact callsN_of_SWn (H:=catH ps) (gl:=[]) (m:=catM ps ty) (args:=[sl0 ps.length]) (R:=fun cap q=>OwnRow (catY ps ps.length) cap q) Tryz.func44 (by kernel_rfl) (jn_body ps hps (fun _ _ h=>h) ty ps.length rfl hp1 hp2 h0 hs) (cat_rel hw) ⟨cat_low c,fun q hq=>⟨(hsrc q hq).1,notAt_apart (hsrc q hq).2⟩⟩ (fun g hg=>by cases hg) rfl
end Go.Proofs.YtlihbglpdkeppaaGreatDoor.Cat
