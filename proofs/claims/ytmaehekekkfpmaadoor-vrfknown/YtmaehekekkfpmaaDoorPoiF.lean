/- Package point: times as a contract. -/
import Derived.Test.YtmaehekekkfpmaaDoorPoiE
import Derived.Test.YtmaehekekkfpmaaDoorFieT
set_option linter.unusedSimpArgs false
set_option linter.unusedVariables false
namespace Go.Proofs.YtmaehekekkfpmaaDoor
open Go Go.RowKit
def stepN (tot q:P4):P4:=sumN (sixN tot) q
theorem stepN_ok (t q:P4):(stepN t q).ok:=sumN_ok _ _
theorem stepV_eq {t q:P4} (ht:t.ok) (hq:q.ok):stepV t q=stepN t q:=by
 unfold stepV stepN
 rw [p4_pv ht,p4_pv (sixN_ok _),p4_pv hq]
def tmR (a:P4) (n:Nat):Nat→P4
 | 0=>neuN
 | j+1=>stepN (stepN (tmR a n j) (muN a (n/256 ^ (31 - j) % 256/16))) (muN a (n/256 ^ (31 - j) % 256 % 16))
theorem tmR_ok (a:P4) (n:Nat) : ∀ j,(tmR a n j).ok
 | 0=>neuN_ok
 | j+1=>stepN_ok _ _
def timesN (n:Nat) (a:P4):P4:=tmR a n 32
theorem timesN_ok (n:Nat) (a:P4):(timesN n a).ok:=tmR_ok a n 32
theorem muL_len (g:Nat→P4):(muL g).length=2048:=by kernel_rfl
theorem putL_whole {l vs:List Value} (h:vs.length=l.length):putL l 0 vs=vs:=by
 unfold putL
 rw [List.take_zero,List.nil_append,Nat.zero_add,h,List.drop_length,List.append_nil]
theorem wrap64' (x:Int) (h : -9223372036854775808≤x∧x<9223372036854775808):IntKind.i64.wrap x=x:=by
 simp [IntKind.wrap,IntKind.bits,IntKind.signed];omega
theorem tO_ok (n:Nat) {tot q:P4} (ht:tot.ok) (hq:q.ok) (k:Nat) (hk:k<32) (d:Nat) (hd:d<16) {x:List Prop} (hx : ∀ p ∈ x,p) : ∀ p ∈ tO n tot q (k:Int) (d:Int) x,p:=by
 intro p hp
 unfold tO at hp
 rcases List.mem_append.1 hp with hp | hp
 ·rcases List.mem_append.1 hp with hp | hp
  ·simp only [List.mem_cons,List.not_mem_nil,or_false] at hp
   rcases hp with rfl | rfl | rfl
   ·exact isP_pv ht
   ·omega
   ·have hb:(bl n)[k]? = some (.int .u8 (by8 n k)):=by simp [bl,hk]
    have e:0+((k:Int)).toNat*1=k:=by simp
    unfold nb
    rw [e]
    unfold intL
    rw [hb]
  ·exact hx p hp
 ·simp only [List.mem_cons,List.not_mem_nil,or_false] at hp
  rcases hp with rfl | rfl
  ·omega
  ·rw [p4_pv ht];exact ⟨isP_pv (sixN_ok _),isP_pv hq⟩
theorem nb_eq (n k:Nat) (hk:k<32):nb n (k:Int)=((n/256 ^ k % 256:Nat):Int):=by
 have hb:(bl n)[k]? = some (.int .u8 (by8 n k)):=by simp [bl,hk]
 have e:0+((k:Int)).toNat*1=k:=by simp
 unfold nb
 rw [e]
 unfold intL
 rw [hb]
 rfl
theorem half6 (n:Nat) (a:P4) (g:Nat→P4) (tot:P4) (i:Int) : ∀ d:Nat,d<16→proj tK (sexec Tryd.prog (FtX.tellI [(20,(d:Int))]) 40 (tR6 Tryd.f22) [] (thd 26 52 79 n a (muL g) tot i))=some (tO n tot (g d) i d [0≤(4:Int),Int.fdiv (nb n i) (2 ^ min (4:Int).toNat 8)=d],thd 26 52 79 n a (muL g) (stepV tot (g d)) i)
 | 0,_=>t6_0 n a g tot i
 | 1,_=>t6_1 n a g tot i
 | 2,_=>t6_2 n a g tot i
 | 3,_=>t6_3 n a g tot i
 | 4,_=>t6_4 n a g tot i
 | 5,_=>t6_5 n a g tot i
 | 6,_=>t6_6 n a g tot i
 | 7,_=>t6_7 n a g tot i
 | 8,_=>t6_8 n a g tot i
 | 9,_=>t6_9 n a g tot i
 | 10,_=>t6_10 n a g tot i
 | 11,_=>t6_11 n a g tot i
 | 12,_=>t6_12 n a g tot i
 | 13,_=>t6_13 n a g tot i
 | 14,_=>t6_14 n a g tot i
 | 15,_=>t6_15 n a g tot i
 | d+16,h=>absurd h (by omega)
theorem half7 (n:Nat) (a:P4) (g:Nat→P4) (tot:P4) (i:Int) : ∀ d:Nat,d<16→proj tK (sexec Tryd.prog (FtX.tellI [(29,(d:Int))]) 40 (tR7 Tryd.f22) [] (thd 26 52 79 n a (muL g) tot i))=some (tO n tot (g d) i d [bits .and .u8 (nb n i) 15=d],thd 26 52 79 n a (muL g) (stepV tot (g d)) i)
 | 0,_=>t7_0 n a g tot i
 | 1,_=>t7_1 n a g tot i
 | 2,_=>t7_2 n a g tot i
 | 3,_=>t7_3 n a g tot i
 | 4,_=>t7_4 n a g tot i
 | 5,_=>t7_5 n a g tot i
 | 6,_=>t7_6 n a g tot i
 | 7,_=>t7_7 n a g tot i
 | 8,_=>t7_8 n a g tot i
 | 9,_=>t7_9 n a g tot i
 | 10,_=>t7_10 n a g tot i
 | 11,_=>t7_11 n a g tot i
 | 12,_=>t7_12 n a g tot i
 | 13,_=>t7_13 n a g tot i
 | 14,_=>t7_14 n a g tot i
 | 15,_=>t7_15 n a g tot i
 | d+16,h=>absurd h (by omega)
theorem and15 (x:Nat) (h:x<256):bits .and .u8 (x:Int) 15=((x % 16:Nat):Int):=by
 have key : ∀ y:Fin 256,bits .and .u8 ((y.val:Nat):Int) 15=((y.val % 16:Nat):Int):=by decide +kernel
 exact key ⟨x,h⟩
theorem fdiv16 (x:Nat):Int.fdiv (x:Int) (2 ^ min (4:Int).toNat 8)=((x/16:Nat):Int):=by
 show Int.fdiv (x:Int) (2 ^ 4)=_
 rw [Int.fdiv_eq_ediv_of_nonneg _ (by decide)]
 rfl
theorem t_end (n:Nat) (a:P4) (g:Nat→P4) (T:P4) (i:Int):SW Tryd.prog gl4 (tT Tryd.f22) (tX Tryd.prog Tryd.f22 26 52 79 n a g T i) (fun e s=>(e = .normal∨e = .ret)∧s.1.defers = [] ∧ ∃ v,sres Tryd.prog Tryd.f22 s=some v∧(flat v=true∨v=undef)∧gHas M0 s.2=true∧v=pv T):=by
 refine SW.run F4_ok mixed 40 (of_fstS (t_z n a g T i)) (by simp) ?_
 exact ⟨.inr rfl,t_d n a g T i,pv T,t_r n a g T i,.inl (flat_pv T),t_m n a g T i,rfl⟩
set_option maxRecDepth 10000 in
theorem times_any (n:Nat) (hn:n<RN) {a:P4} (la:a.ok) (w:World) (hw:Glo M0 w) :
  Calls Tryd.prog 22 #[bv n,pv a] w fun e w'=>e = .returned (pv (timesN n a))∧Below w.heap.size w w':=by
 have hb:Tryd.f22.body=some (bodyOf Tryd.f22):=by kernel_rfl
 refine (callsG_of_SW (M0:=M0) (gl:=gl4) (R:=fun u=>u=pv (timesN n a)) (args:=[bv n,pv a]) M0_flat (fun g hg => ?_) Tryd.func22 hb ?_ (by simp [flat_bv,flat_pv]) w hw).mono ?_
 ·have:insideG M0 gl4=true:=by kernel_rfl
  exact List.all_eq_true.1 this g hg
 ·refine SW.seqC (by kernel_rfl) ?_
  refine SW.run F4_ok mixed 20 (of_fstS (t_1 n a)) (by simp) ?_
  show SW Tryd.prog gl4 (cR (bodyOf Tryd.f22)) (ts1 Tryd.prog Tryd.f22 n a) _
  refine SW.seqC (by kernel_rfl) ?_
  refine SW.run F4_ok mixed 20 (of_fstS (t_2 n a)) (by
   intro p hp
   simp only [List.mem_cons,List.not_mem_nil,or_false] at hp
   rcases hp with rfl
   exact isP_pv la) ?_
  show SW Tryd.prog gl4 (cR (cR (bodyOf Tryd.f22))) (ts2 Tryd.prog Tryd.f22 n a) _
  refine SW.seqC (by kernel_rfl) ?_
  refine SW.run F4_ok mixed 20 (of_fstS (t_3 n a)) (by simp) ?_
  show SW Tryd.prog gl4 (cR (cR (cR (bodyOf Tryd.f22)))) (ts3 Tryd.prog Tryd.f22 n a) _
  refine SW.seqC (by kernel_rfl) ?_
  refine SW.seqC (by kernel_rfl) ?_
  refine SW.run F4_ok mixed 20 (of_fstS (t_4 n a)) (by simp) ?_
  show SW Tryd.prog gl4 (cR (cL (cR (cR (cR (bodyOf Tryd.f22)))))) (ts4 Tryd.prog Tryd.f22 n a) _
  refine SW.blockC (by kernel_rfl) ?_
  refine SW.loopC (by kernel_rfl) (fun k s=>k≤32∧tK s=thd 26 52 79 n a (muL (muN a)) (tmR a n (32 - k)) ((k:Int) - 1)) 32 ⟨Nat.le_refl _,?_⟩ ?_
  ·have e1:putL (zeroC Tryd.prog 79) 0 (muL (muN a))=muL (muN a):=putL_whole ((muL_len _).trans zeroC_len.symm)
   have e2:tmR a n (32 - 32)=neuN:=rfl
   have e3:((32:Nat):Int) - 1=31:=rfl
   rw [t_h,p4_pv la,e1,e2,e3]
  ·rintro k s ⟨hk,hs⟩
   refine SW.forget (a:=s.1) (m:=s.2) tF ?_
   show SW Tryd.prog gl4 (tLB Tryd.f22) (tK s) _
   rw [hs]
   refine SW.seqC (by kernel_rfl) ?_
   cases k with
   | zero =>
    refine SW.run (Cx.tell_ok FtX_ok _) mixed 40 (of_fstS (t_x n a (muN a) _ _)) (by simp) ?_
    show SW Tryd.prog gl4 (tT Tryd.f22) (tX Tryd.prog Tryd.f22 26 52 79 n a (muN a) _ _) _
    exact t_end n a (muN a) (tmR a n (32 - 0)) _
   | succ j =>
    have hj:j<32:=by omega
    have ei:((j+1:Nat):Int) - 1=(j:Int):=by omega
    rw [ei]
    have lt:=tmR_ok a n (32 - (j+1))
    obtain ⟨s1,h1,k1⟩:=proj_some (t_go n a (muN a) (tmR a n (32 - (j+1))) (j:Int))
    refine SW.run (Cx.tell_ok FtX_ok _) mixed 40 h1 (by
     intro p hp
     simp only [List.mem_cons,List.not_mem_nil,or_false] at hp
     rcases hp with rfl
     simp) ?_
    show SW Tryd.prog gl4 (cR (tLB Tryd.f22)) s1 _
    refine SW.forget (a:=s1.1) (m:=s1.2) tF ?_
    show SW Tryd.prog gl4 (cR (tLB Tryd.f22)) (tK s1) _
    rw [k1]
    refine SW.seqC (by kernel_rfl) ?_
    refine SW.blockC (by kernel_rfl) ?_
    refine SW.seqC (by kernel_rfl) ?_
    have hB:n/256 ^ j % 256<256:=Nat.mod_lt _ (by decide)
    obtain ⟨B,hBe⟩ : ∃ B,B=n/256 ^ j % 256:=⟨_,rfl⟩
    rw [←hBe] at hB
    have hnb:nb n (j:Int)=(B:Int):=by rw [nb_eq n j hj,hBe]
    obtain ⟨s2,h2,k2⟩:=proj_some (half6 n a (muN a) (tmR a n (32 - (j+1))) (j:Int) (B/16) (by omega))
    refine SW.run (Cx.tellI_ok FtX_ok _) mixed 40 h2 (tO_ok n lt (muN_ok a _) j hj (B/16) (by omega) (by
     intro p hp
     simp only [List.mem_cons,List.not_mem_nil,or_false] at hp
     rcases hp with rfl | rfl
     ·decide
     ·rw [hnb];exact fdiv16 B)) ?_
    show SW Tryd.prog gl4 (tR7 Tryd.f22) s2 _
    refine SW.forget (a:=s2.1) (m:=s2.2) tF ?_
    show SW Tryd.prog gl4 (tR7 Tryd.f22) (tK s2) _
    rw [k2,stepV_eq lt (muN_ok a _)]
    have lt2:=stepN_ok (tmR a n (32 - (j+1))) (muN a (B/16))
    obtain ⟨s3,h3,k3⟩:=proj_some (half7 n a (muN a) (stepN (tmR a n (32 - (j+1))) (muN a (B/16))) (j:Int) (B % 16) (by omega))
    refine SW.run (Cx.tellI_ok FtX_ok _) mixed 40 h3 (tO_ok n lt2 (muN_ok a _) j hj (B % 16) (by omega) (by
     intro p hp
     simp only [List.mem_cons,List.not_mem_nil,or_false] at hp
     rcases hp with rfl
     rw [hnb];exact and15 B hB)) ?_
    show SW Tryd.prog gl4 (tR5 Tryd.f22) s3 _
    refine SW.forget (a:=s3.1) (m:=s3.2) tF ?_
    show SW Tryd.prog gl4 (tR5 Tryd.f22) (tK s3) _
    rw [k3,stepV_eq lt2 (muN_ok a _)]
    obtain ⟨s4,h4,k4⟩:=proj_some (t_5 n a (muN a) (stepN (stepN (tmR a n (32 - (j+1))) (muN a (B/16))) (muN a (B % 16))) (j:Int))
    refine SW.run F4_ok mixed 40 h4 (by simp) ⟨j,by omega,by omega,?_⟩
    rw [k4,wrap64' _ (by omega)]
    have e:32 - j=(32 - (j+1))+1:=by omega
    rw [e]
    show _=thd _ _ _ _ _ _ (stepN (stepN (tmR a n (32 - (j+1))) (muN a (n/256 ^ (31 - (32 - (j+1))) % 256/16))) (muN a (n/256 ^ (31 - (32 - (j+1))) % 256 % 16))) _
    rw [show 31 - (32 - (j+1))=j by omega,←hBe]
 ·rintro e w' ⟨v,rfl,rfl,hb⟩
  exact ⟨rfl,hb⟩
def gTim:List Value→Option (List Prop × Value)
 | [A,B]=>some ([IsB A∧IsP B],pv (timesN (bnum A) (p4 B)))
 | _=>none
theorem gTim_ok {X:Cx} (hX:X.Ok Tryd.prog) (hc:coversG M0 X.gl=true):(X.var M0 22 gTim).Ok Tryd.prog:=by
 refine gVar_ok hX M0_flat hc Tryd.func22 (by kernel_rfl) (by kernel_rfl) ?_
 intro args ps v ha hg hp
 unfold gTim at hg
 split at hg
 ·rename_i A B
  simp only [Option.some.injEq,Prod.mk.injEq] at hg
  obtain ⟨rfl,rfl⟩:=hg
  obtain ⟨hA,⟨hB,lB⟩⟩:=hp _ (List.mem_singleton.2 rfl)
  refine ⟨.inl (flat_pv _),fun w hw => ?_⟩
  have h:=times_any (bnum A) (bnum_lt hA) lB w hw
  rw [← (show A=bv (bnum A) from hA),←hB] at h
  exact h
 ·simp at hg
def F5:Cx:=F4.var M0 22 gTim
theorem F5_ok:F5.Ok Tryd.prog:=gTim_ok F4_ok (by kernel_rfl)
end Go.Proofs.YtmaehekekkfpmaaDoor
/- Package point: squareOfX, read, write as contracts. -/
namespace Go.Proofs.YtmaehekekkfpmaaDoor
open Go Go.RowKit
def gSqF:List Value→Option (List Prop × Value)
 | [A]=>some ([IsB A],.tuple #[bv (sqv (bnum A)),.int .i64 (sqe (bnum A))])
 | _=>none
theorem flat_tup (n:Nat) (e:Int):flat (.tuple #[bv n,.int .i64 e])=true:=by
 show ([bv n,.int .i64 e].all flat2)=true
 have:flat2 (bv n)=true:=flat_bv n
 rw [List.all_cons,this];rfl
theorem flat_tupP (p:P4) (e:Int):flat (.tuple #[pv p,.int .i64 e])=true:=by
 show ([pv p,.int .i64 e].all flat2)=true
 have:flat2 (pv p)=true:=flat_pv p
 rw [List.all_cons,this];rfl
theorem gSqF_ok {X:Cx} (hX:X.Ok Tryd.prog):(X.pure 54 gSqF).Ok Tryd.prog:=by
 refine gBody_ok hX Tryd.func54 (by kernel_rfl) (by kernel_rfl) ?_
 intro args ps v ha hg hp
 unfold gSqF at hg
 split at hg
 ·rename_i A
  simp only [Option.some.injEq,Prod.mk.injEq] at hg
  obtain ⟨rfl,rfl⟩:=hg
  have hA:=hp _ (List.mem_singleton.2 rfl)
  refine ⟨.inl (flat_tup _ _),fun w => ?_⟩
  have h:=Sqrt_any (bnum A) (bnum_lt hA) w
  rw [← (show A=bv (bnum A) from hA)] at h
  exact h
 ·simp at hg
def F6:Cx:=F5.pure 54 gSqF
theorem F6_ok:F6.Ok Tryd.prog:=gSqF_ok F5_ok
def sxN (y:Nat):Nat:=fml (fsb (fml y y) 1) (fiv (fad 1 (fml DN' (fml y y))))
def sqV (y:Nat):Value:=ML (bv y) (bv y)
def dvV (y:Nat):Value:=AD (bv 1) (ML (bv DN') (sqV y))
theorem sx_run (y:Nat):sfunG Tryd.prog F6 M0 60 Tryd.f55 (bodyOf Tryd.f55) [bv y]=some ([IB (bv y) (bv y),IB (bv DN') (sqV y),IB (bv 1) (ML (bv DN') (sqV y)),IB (sqV y) (bv 1),IsB (dvV y),IB (SB (sqV y) (bv 1)) (IV (dvV y))],ML (SB (sqV y) (bv 1)) (IV (dvV y))):=by kernel_rfl
theorem sx_val {y:Nat} (h:y<RN):ML (SB (sqV y) (bv 1)) (IV (dvV y))=bv (sxN y):=by
 have h1:sqV y=bv (fml y y):=bnum_ML _ _ h h
 have h2:dvV y=bv (fad 1 (fml DN' (fml y y))):=by unfold dvV;rw [h1,bnum_ML _ _ (by decide) (fmlR _ _),bnum_AD _ _ (by decide) (fmlR _ _)]
 rw [h1,h2,bnum_SB _ _ (fmlR _ _) (by decide),bnum_IV _ (fadR _ _),bnum_ML _ _ (fsbR _ _) (fivR _)]
 rfl
def gSqx:List Value→Option (List Prop × Value)
 | [A]=>some ([IsB A],bv (sxN (bnum A)))
 | _=>none
theorem gSqx_ok {X:Cx} (hX:X.Ok Tryd.prog) (hc:coversG M0 X.gl=true):(X.var M0 55 gSqx).Ok Tryd.prog:=by
 refine gVar_ok hX M0_flat hc Tryd.func55 (by kernel_rfl) (by kernel_rfl) ?_
 intro args ps v ha hg hp
 unfold gSqx at hg
 split at hg
 ·rename_i A
  simp only [Option.some.injEq,Prod.mk.injEq] at hg
  obtain ⟨rfl,rfl⟩:=hg
  have hA:=hp _ (List.mem_singleton.2 rfl)
  refine ⟨.inl (flat_bv _),fun w hw => ?_⟩
  have run:=sx_run (bnum A)
  rw [sx_val (bnum_lt hA)] at run
  have h:=sfunG_calls F6_ok mixed M0_flat (by kernel_rfl) Tryd.func55 (by kernel_rfl) run (by
   intro p hp
   simp only [List.mem_cons,List.not_mem_nil,or_false] at hp
   rcases hp with rfl | rfl | rfl | rfl | rfl | rfl <;> first | exact ib | exact isB_bv _) (by simp [flat_bv]) (.inl (flat_bv _)) w hw
  rw [← (show A=bv (bnum A) from hA)] at h
  exact h
 ·simp at hg
def F7:Cx:=F6.var M0 55 gSqx
theorem F7_ok:F7.Ok Tryd.prog:=gSqx_ok F6_ok (by kernel_rfl)
def TT:Nat:=57896044618658097711785492504343953926634992332820282019728792003956564819968
theorem tt_pow:TT=256 ^ 31*128:=by decide
def lowV (n:Nat):Value := .agg ((bl n).take 31 ++ [Value.int .u8 (bits .andNot .u8 (by8 n 31) 128)]).toArray
def topV (n:Nat):Value := .agg ((bl n).take 31 ++ [Value.int .u8 (bits .or .u8 (by8 n 31) 128)]).toArray
theorem byte_ops : ∀ y:Fin 256,bits .andNot .u8 ((y.val:Nat):Int) 128=((y.val % 128:Nat):Int)∧(!(bits .and .u8 ((y.val:Nat):Int) 128 == 0))=decide (128≤y.val)∧bits .or .u8 ((y.val:Nat):Int) 128=((y.val % 128+128:Nat):Int)∧(bits .and .u8 ((y.val:Nat):Int) 1 == 1)=decide (y.val % 2=1):=by decide +kernel
theorem bl_split (n:Nat):bl n=(bl n).take 31 ++ [.int .u8 (by8 n 31)]:=by
 unfold bl
 rw [show (32:Nat)=31+1 from rfl,List.range_succ,List.map_append,List.take_left' (by simp)]
 rfl
theorem take31_congr {m n:Nat} (h:m % 256 ^ 31=n % 256 ^ 31):(bl m).take 31=(bl n).take 31:=by
 unfold bl
 rw [←List.map_take,←List.map_take,List.take_range]
 refine List.map_congr_left fun i hi => ?_
 have hi:i<31:=by simpa using hi
 rw [←by8_mod m 31 i hi,←by8_mod n 31 i hi,h]
theorem lowV_eq (n:Nat) (h:n<RN):lowV n=bv (n % TT):=by
 unfold lowV bv br
 rw [bl_split (n % TT)]
 have hb:n/256 ^ 31 % 256<256:=Nat.mod_lt _ (by decide)
 have e1:by8 n 31=((n/256 ^ 31 % 256:Nat):Int):=rfl
 have o:=(byte_ops ⟨n/256 ^ 31 % 256,hb⟩).1
 simp only at o
 have e2:by8 (n % TT) 31=((n/256 ^ 31 % 256 % 128:Nat):Int):=by
  unfold by8
  rw [tt_pow,Nat.mod_mul_right_div_self]
  congr 1
  omega
 rw [e1,o,e2,take31_congr (m:=n % TT) (n:=n) (by rw [tt_pow,Nat.mod_mul_right_mod])]
theorem topV_eq (n:Nat) (h:n<TT):topV n=bv (n+TT):=by
 unfold topV bv br
 rw [bl_split (n+TT)]
 have hb:n/256 ^ 31 % 256<256:=Nat.mod_lt _ (by decide)
 have e1:by8 n 31=((n/256 ^ 31 % 256:Nat):Int):=rfl
 have o:=(byte_ops ⟨n/256 ^ 31 % 256,hb⟩).2.2.1
 simp only at o
 have hl:n/256 ^ 31<128:=by rw [Nat.div_lt_iff_lt_mul (by decide),Nat.mul_comm,←tt_pow];exact h
 have e2:by8 (n+TT) 31=((n/256 ^ 31 % 256 % 128+128:Nat):Int):=by
  unfold by8
  rw [tt_pow,Nat.add_mul_div_left _ _ (by decide)]
  congr 1
  omega
 rw [e1,o,e2,take31_congr (m:=n+TT) (n:=n) (by rw [tt_pow,Nat.add_mul_mod_self_left])]
def ivV (p:P4):Value:=IV (bv p.z)
def wx (p:P4):Nat:=fml p.x (fiv p.z)
def wy (p:P4):Nat:=fml p.y (fiv p.z)
def wxS (p:P4):Nat:=fml (bnum (bv p.x)) (bnum (ivV p))
def wyS (p:P4):Nat:=fml (bnum (bv p.y)) (bnum (ivV p))
theorem wr_run0 (p:P4):sfunG Tryd.prog (F7.tell [(20,false)]) M0 60 Tryd.f21 (bodyOf Tryd.f21) [pv p]=some ([IsB (bv p.z),IB (bv p.x) (ivV p),IB (bv p.y) (ivV p),(bits .and .u8 (by8 (wxS p) 0) 1 == 1)=false],bv (wyS p)):=by kernel_rfl
theorem wr_run1 (p:P4):sfunG Tryd.prog (F7.tell [(20,true)]) M0 60 Tryd.f21 (bodyOf Tryd.f21) [pv p]=some ([IsB (bv p.z),IB (bv p.x) (ivV p),IB (bv p.y) (ivV p),(bits .and .u8 (by8 (wxS p) 0) 1 == 1)=true],topV (wyS p)):=by kernel_rfl
def wrN (p:P4):Nat:=wy p+wx p % 2*TT
theorem pp_lt_TT:pp<TT:=by decide
theorem write_any {p:P4} (lp:p.ok) (w:World) (hw:Glo M0 w):Calls Tryd.prog 21 #[pv p] w fun e w'=>e = .returned (bv (wrN p))∧Below w.heap.size w w':=by
 have e1:ivV p=bv (fiv p.z):=bnum_IV _ lp.z
 have e2:wxS p=wx p:=by unfold wxS wx;rw [e1,bnum_bv' lp.x,bnum_bv' (fivR _)]
 have e3:wyS p=wy p:=by unfold wyS wy;rw [e1,bnum_bv' lp.y,bnum_bv' (fivR _)]
 have hb:wx p/256 ^ 0 % 256<256:=Nat.mod_lt _ (by decide)
 have o:=(byte_ops ⟨wx p/256 ^ 0 % 256,hb⟩).2.2.2
 simp only at o
 have o:(bits .and .u8 (by8 (wx p) 0) 1 == 1)=decide (wx p % 2=1):=by
  show (bits .and .u8 ((wx p/256 ^ 0 % 256:Nat):Int) 1 == 1)=_
  rw [o,decide_eq_decide,Nat.pow_zero,Nat.div_one,Nat.mod_mod_of_dvd _ (by decide)]
 have hwy:wy p<TT:=Nat.lt_trans (fml_lt _ _) pp_lt_TT
 have r0:=wr_run0 p
 have r1:=wr_run1 p
 rw [e2,e3,e1] at r0 r1
 rw [o] at r0 r1
 by_cases h:wx p % 2=1
 ·have k:=sfunG_calls (Cx.tell_ok F7_ok _) mixed M0_flat (by kernel_rfl) Tryd.func21 (by kernel_rfl) r1 (by
   intro p hp
   simp only [List.mem_cons,List.not_mem_nil,or_false] at hp
   rcases hp with rfl | rfl | rfl | rfl
   ·exact isB_bv _
   ·exact ib
   ·exact ib
   ·exact decide_eq_true h) (by simp [flat_pv]) (.inl (by rw [topV_eq _ hwy];exact flat_bv _)) w hw
  rw [topV_eq _ hwy] at k
  unfold wrN
  rw [h,Nat.one_mul]
  exact k
 ·have k:=sfunG_calls (Cx.tell_ok F7_ok _) mixed M0_flat (by kernel_rfl) Tryd.func21 (by kernel_rfl) r0 (by
   intro p hp
   simp only [List.mem_cons,List.not_mem_nil,or_false] at hp
   rcases hp with rfl | rfl | rfl | rfl
   ·exact isB_bv _
   ·exact ib
   ·exact ib
   ·exact decide_eq_false h) (by simp [flat_pv]) (.inl (flat_bv _)) w hw
  have h0:wx p % 2=0:=by omega
  unfold wrN
  rw [h0,Nat.zero_mul,Nat.add_zero]
  exact k
def gWr:List Value→Option (List Prop × Value)
 | [A]=>some ([IsP A],bv (wrN (p4 A)))
 | _=>none
theorem gWr_ok {X:Cx} (hX:X.Ok Tryd.prog) (hc:coversG M0 X.gl=true):(X.var M0 21 gWr).Ok Tryd.prog:=by
 refine gVar_ok hX M0_flat hc Tryd.func21 (by kernel_rfl) (by kernel_rfl) ?_
 intro args ps v ha hg hp
 unfold gWr at hg
 split at hg
 ·rename_i A
  simp only [Option.some.injEq,Prod.mk.injEq] at hg
  obtain ⟨rfl,rfl⟩:=hg
  obtain ⟨hA,lA⟩:=hp _ (List.mem_singleton.2 rfl)
  refine ⟨.inl (flat_bv _),fun w hw => ?_⟩
  have h:=write_any lA w hw
  rw [←hA] at h
  exact h
 ·simp at hg
end Go.Proofs.YtmaehekekkfpmaaDoor
