import Derived.Test.YtajehiidpecknaaGreatDoorVrN
set_option linter.all false
namespace Go.Proofs.YtajehiidpecknaaGreatDoor.Wi
open Go Go.RowKit
set_option maxRecDepth 100000
theorem Du : ∀ y:Fin 256,bits .and .u8 ((y.val:Nat):Int) 248=bits .andNot .u8 ((y.val:Nat):Int) 7∧bits .and .u8 ((y.val:Nat):Int) 127=bits .andNot .u8 ((y.val:Nat):Int) 128:=by decide +kernel
theorem Ex {z:Int} (h:0≤z∧z≤255):bits .and .u8 z 248=bits .andNot .u8 z 7∧bits .and .u8 z 127=bits .andNot .u8 z 128:=by
 have:=Du ⟨z.toNat,by omega⟩
 simp only [show ((z.toNat:Nat):Int)=z by omega] at this
 exact this
theorem zG {x:List Int} {n i:Nat} (h:i<n):gi (x.take n) i=gi x i:=by
 unfold gi;rw [List.getD_eq_getElem?_getD,List.getD_eq_getElem?_getD,List.getElem?_take,if_pos h]
theorem LG {x:List Int} {i j:Nat} {z:Int} (h:i≠j):gi (x.set i z) j=gi x j:=by
 unfold gi;rw [List.getD_eq_getElem?_getD,List.getD_eq_getElem?_getD,List.getElem?_set_ne h]
theorem Hh {x:List Int} (h:x.length=64) (a b:Int):((x.take 32).set 0 a).set 31 b=a :: ((x.drop 1).take 30 ++ [b]):=by
 apply List.ext_getElem?
 intro i
 have hl:(x.take 32).length=32:=by rw [List.length_take];omega
 rcases (by omega:i=0∨(1≤i∧i≤30)∨i=31∨32≤i) with rfl | ⟨h1,h2⟩ | rfl | h1
 ·rw [List.getElem?_set_ne (by omega),List.getElem?_set_self (by omega)];rfl
 ·obtain ⟨j,rfl⟩ : ∃ j,i=j+1:=⟨i - 1,by omega⟩
  rw [List.getElem?_set_ne (by omega),List.getElem?_set_ne (by omega),List.getElem?_take,if_pos (by omega),List.getElem?_cons_succ,List.getElem?_append_left (by simp;omega),List.getElem?_take,if_pos (by omega),List.getElem?_drop,Nat.add_comm]
 ·rw [List.getElem?_set_self (by rw [List.length_set];omega),List.getElem?_cons_succ,List.getElem?_append_right (by simp;omega)]
  simp [List.length_take,List.length_drop,h]
 ·rw [List.getElem?_eq_none (by simp;omega),List.getElem?_eq_none (by simp;omega)]
theorem JT (s:List Int):(((h5 s).take 32).set 0 (bits .and .u8 (gi (h5 s) 0) 248)).set 31 (bits .or .u8 (bits .and .u8 (gi (h5 s) 31) 127) 64)=Ve.sk s:=by
 have hl:=bq s
 have b0:=(dS s).get (i:=0) (by omega)
 have b31:=(dS s).get (i:=31) (by omega)
 rw [Hh hl,(Ex b0).1,(Ex b31).2];rfl
theorem ji {w:World} {b:Nat} {x:List Int} (h:w.rangeAt b 0 (bv x)) (hf:w.there b 0 x.length) {i:Nat} (hi:i<x.length) (z:Int) :
  (w.setCell ⟨b,i,none⟩ (.int .u8 z)).rangeAt b 0 (bv (x.set i z)):=fun j v hj=>by
 have e:bv (x.set i z)=(bv x).set i (.int .u8 z):=by simp [bv,List.map_set]
 rw [e] at hj
 rw [Nat.zero_add]
 by_cases q:j=i
 ·subst q
  rw [List.getElem?_set_self (by rw [ae];exact hi)] at hj
  cases hj
  have:=(hf j hi).1
  rw [Nat.zero_add] at this
  exact World.cell?_setCell_same' _ _ _ this
 ·rw [List.getElem?_set_ne (Ne.symm q)] at hj
  have:=h j v hj
  rw [Nat.zero_add] at this
  rw [World.cell?_setCell_other _ _ _ _ (fun e=>q (by cases e;rfl))];exact this
theorem cell_of {w:World} {b:Nat} {x:List Int} (h:w.rangeAt b 0 (bv x)) {i:Nat} (hi:i<x.length):w.cell? ⟨b,i,none⟩=some (.int .u8 (gi x i)):=by
 have:=h i _ (de x hi)
 rwa [Nat.zero_add] at this
def Ol (U:World) (b:Nat) (x q:List Int):Nat→(Nat→Value)→World→Prop
 | 0,_,W=>Below U.heap.size U W
 | 1,V,W=>Below U.heap.size U W∧Ow U.heap.size W (V 0) []
 | 2,V,W=>Below U.heap.size U W∧Ow U.heap.size W (V 1) q
 | 3,V,W => ∃ W0,Below U.heap.size U W0∧Ow U.heap.size W0 (V 1) q∧W=W0.setCells b 0 (bv x)
 | _+4,V,W=>V 3=V 1 ∧ ∃ W0,Below U.heap.size U W0∧Ow U.heap.size W0 (V 1) q∧W=W0.setCells b 0 (bv x)
theorem AE {U:World} {b:Nat} {x q:List Int} {k:Nat} {V:Nat→Value} {W:World} (h:Ol U b x q k V W) (hk:k≤2):Below U.heap.size U W:=by
 match k,hk with
 | 0,_=>exact h
 | 1,_=>exact h.1
 | 2,_=>exact h.1
theorem nE {b b':Nat} (hne:b≠b') : ∀ (vs:List Value) (o:Nat) (w:World),(w.setCells b' o vs).heap[b]? = w.heap[b]?
 | [],_,_=>rfl
 | v :: r,o,w=>by rw [World.setCells,nE hne r];exact Below.heap_setCell _ _ _ b hne
theorem fQ {w:World} {b b':Nat} {cs:List Value} (h:w.rangeAt b 0 cs) (hne:b≠b') (i:Nat) (v:Value):(w.setCell ⟨b',i,none⟩ v).rangeAt b 0 cs:=fun j u hj=>by
 rw [World.cell?_setCell_far _ _ _ _ (fun e=>hne e.symm)];exact h j u hj
theorem xy {w:World} {b:Nat} {x:List Int} (hl:x.length=64) (h:w.rangeAt b 0 (bv x)):w.rangeAt b 32 (bv (x.drop 32)):=fun j v hj=>by
 have:=h (32+j) v (by unfold bv at hj ⊢;rw [List.map_drop,List.getElem?_drop] at hj;exact hj)
 rwa [Nat.zero_add] at this
theorem Dz (w:World):Ow w.heap.size (w.alloc (.cells #[] 5)) (.slice (some ⟨w.heap.size,0,none⟩) 0 0) [] :=
 ⟨rfl,.inr ⟨w.heap.size,0,#[],rfl,Nat.le_refl _,by show (w.heap.push _)[w.heap.size]? = _;simp,Nat.le_refl _,by unfold maxLen;omega,rfl,rfl⟩⟩
theorem vb (w:World) (B:Nat) (v:Value) {xs:List Int} (h0:Ow B w v xs) (u:Value) {ys:List Int} (hg:Sl w u ys) (hne:ys≠[]) (hB:B≤w.heap.size) (hk:xs.length+ys.length≤140737488355328) :
  ∃ v' w',(Builtin.append_ #[23,23] 23 #[v,u]).run Tryz.prog w = .ok v' w'∧Ow B w' v' (xs ++ ys)∧w.grownBy w' v.ownBlock∧(v'.ownBlock=v.ownBlock∨v'.ownBlock=some w.heap.size):=by
 obtain ⟨i,hi,hz,hsz,hby⟩:=jg
 obtain ⟨ad,cap,rfl,hc,hg⟩:=hg
 rcases hg with ⟨e,_⟩ | ⟨b,off,rfl,_,hm⟩
 ·exact absurd e hne
 ·obtain ⟨v',w',r1,r2,r3,_,r4⟩:=run_append_own_at (P:=Tryz.prog) w B 23 23 5 i (.int .u8 0) 1 1 Tryz.underlying23 hi hz hsz hby rfl (by decide) v xs.length (bv xs) h0 ⟨b,off,none⟩ ys.length cap (bv ys) (by rw [ae];omega) (fun j q hq=>by
   obtain ⟨hj,hv⟩:=List.getElem?_eq_some_iff.1 hq
   rw [ae] at hj
   rw [bL,hm j hj,←de ys hj,←hq]) (ia _) (by unfold maxLen;omega) (by omega) hB
  exact ⟨v',w',r1,by unfold Ow;rw [List.length_append,jm];exact r2,r3,r4⟩
def O8 (E4 E5:Nat):Nat→Option Value
 | 0=>some (.slice (some ⟨E5,0,none⟩) 32 32)
 | 1=>some (.slice (some ⟨E4,0,none⟩) 32 64)
 | _=>none
def rh6f (E4:Nat) (S:List Int):Nat→Value
 | 0 => .agg (bv S).toArray
 | 1=>undef
 | 2 => .slice (some ⟨E4,32,none⟩) 32 32
 | 3=>undef
 | 4=>undef
 | 5=>undef
 | _=>undef
set_option maxHeartbeats 4000000 in
theorem mn (s:List Int) (hs:L32 s) (w:World) :
  Calls Tryz.prog 27 #[.agg (bv s).toArray] w fun e w' => ∃ v',e = .returned (.tuple #[.agg (bv (Ve.sk s)).toArray,v'])∧Ow w.heap.size w' v' (Ve.pf s)∧Below w.heap.size w w':=by
 have HS32:Hid (L32 s):=hs
 obtain ⟨h,hh⟩ : ∃ h,h5 s=h:=⟨_,rfl⟩
 have HHE:Hid (h5 s=h):=hh
 have HL:Hid (h.length=64):=by rw [←hh];exact bq _
 have HB:Hid (Byt h):=by rw [←hh];exact dS _
 obtain ⟨S,hS⟩ : ∃ S,Ve.sk s=S:=⟨_,rfl⟩
 have HSE:Hid (Ve.sk s=S):=hS
 have HSL:Hid (L32 S):=by rw [←hS];exact Ve.oI _
 have HDL:Hid (L32 (h.drop 32)):=by rw [←hh];exact Ve.tc s
 have HPF:Hid (Ve.pf s=h.drop 32):=by show (h5 s).drop 32=_;rw [hh]
 have HSET:Hid (((h.take 32).set 0 (bits .and .u8 (gi h 0) 248)).set 31 (bits .or .u8 (bits .and .u8 (gi h 31) 127) 64)=S):=by show _=_;rw [←hh,JT,hS]
 have ra:=eF w (bv s) 22 (0,0)
 have hz:=bG
 obtain ⟨Z,hZ⟩ : ∃ Z,(bv (List.replicate 32 0)).toArray=Z:=⟨_,rfl⟩
 have hZs:Z.size=32:=by rw [←hZ];simp [bv]
 have HZS:Hid (Z.size=32):=hZs
 rw [hZ] at hz
 have hz6:=dZ
 obtain ⟨Z6,hZ6⟩ : ∃ Z,(bv (List.replicate 64 0)).toArray=Z:=⟨_,rfl⟩
 have hZs6:Z6.size=64:=by rw [←hZ6];simp [bv]
 have HZ6:Hid (Z6.size=64):=hZs6
 rw [hZ6] at hz6
 obtain ⟨A,hA⟩ : ∃ A,(bv s).toArray=A:=⟨_,rfl⟩
 rw [hA] at ra ⊢
 obtain ⟨U,hU⟩ : ∃ U,(w.alloc (.cells A 22)).alloc (.cells Z 22)=U:=⟨_,rfl⟩
 have sU:U.heap.size=w.heap.size+2:=by rw [←hU];simp
 have bU:Below w.heap.size w U:=by rw [←hU];exact ((Below.refl _ w).alloc (Nat.le_refl _) _).alloc (by simp) _
 have rp:U.rangeAt w.heap.size 0 (bv s):=by rw [←hU];exact aa ra ((Below.refl _ _).alloc (Nat.le_refl _) _) (by simp)
 have rr:U.heap[w.heap.size+1]? = some (.cells Z 22 (0,0)):=by
  rw [←hU];show ((w.heap.push _).push _)[w.heap.size+1]? = _;rw [Array.getElem?_push,if_pos (by simp)]
 have thr:U.there (w.heap.size+1) 0 32:=aO rr 0 32 (by rw [HZS.out];exact Nat.le_refl _)
 have BU:Hid (Below w.heap.size w U):=bU
 obtain ⟨D,hD⟩ : ∃ D,w.heap.size=D:=⟨_,rfl⟩
 have HD:Hid (w.heap.size=D):=hD
 rw [hD] at sU rp thr
 have SU:Hid (U.heap.size=D+2):=sU
 have THR:Hid (U.there (D+1) 0 32):=thr
 have HSQ:Hid (Sq U (.slice (some ⟨D,0,none⟩) 32 32) s):=(bo hs rp (by omega)).sq (fun e=>by have:=hs.len;rw [e] at this;cases this)
 clear ra sU bU rp rr thr hA hs hh hS hZ hZ6 hZs hZs6
 go_enter Tryz.func27,Tryz.ntmps27
 go_upto_region 1 with (fail)
 try rw [hU]
 try rw [hD]
 clear hU hD
 go_upto_region 2 with (first
  | (go_at_call 40;refine (fh s h _ HHE.out (by rw [HS32.out.len];omega) U HS32.out.byt HSQ.out).mono ?_;rintro e W1 ⟨rfl,g1⟩;have B1:Hid (Below U.heap.size U W1):=g1;clear g1)
  | (refine wpList_store_mid rfl 29 (.tmp 4) (.tmp 7) rfl W1.heap.size 0 (bv h).toArray rfl rfl (bM W1 (show (bv h).toArray.size=Z6.size by rw [List.size_toArray,ae,HL.out,HZ6.out])) (by rw [List.size_toArray,ae,HL.out];exact aR) (ar _) ?_;simp only [YN]))
 obtain ⟨E4,h4⟩ : ∃ n,W1.heap.size=n:=⟨_,rfl⟩
 obtain ⟨W2,hW2⟩ : ∃ W,(W1.alloc (.cells Z6 29)).setCells W1.heap.size 0 (bv h)=W:=⟨_,rfl⟩
 obtain ⟨l1,l2,l3⟩:=aS (by rw [ae,HL.out,HZ6.out]) (by rw [ae,HL.out];omega) hW2
 have B2:Hid (Below U.heap.size U W2):=B1.out.trans (l2.mono B1.out.size)
 have R42:Hid (W2.rangeAt E4 0 (bv h)):=by rw [←h4];exact l1
 have L42:Hid (E4<W2.heap.size):=by rw [←h4];exact l3
 have G4:Hid (D+2≤E4):=by show _≤_;rw [←h4,←SU.out];exact B1.out.size
 try rw [hW2]
 try rw [h4]
 clear l1 l2 l3 hW2 h4 hz6
 go_upto_region 3 with (fail)
 obtain ⟨E5,h5'⟩ : ∃ n,W2.heap.size=n:=⟨_,rfl⟩
 obtain ⟨X,hX⟩ : ∃ W,W2.alloc (.cells Z 22)=W:=⟨_,rfl⟩
 have BX:Hid (Below U.heap.size U X):=by rw [←hX];exact B2.out.trans (((Below.refl _ W2).alloc (Nat.le_refl _) _).mono B2.out.size)
 have R4:Hid (X.rangeAt E4 0 (bv h)):=by rw [←hX];exact aa R42.out ((Below.refl _ W2).alloc (Nat.le_refl _) _) L42.out
 have L4:Hid (E4<X.heap.size):=by show _<_;rw [←hX];have:=L42.out;simp;omega
 have TH5:Hid (X.there E5 0 32):=by rw [←hX,←h5'];exact bM W2 (HZS.out.symm)
 have L5:Hid (E5<X.heap.size):=by show _<_;rw [←hX,←h5'];simp
 have G5:Hid (E4<E5):=by show _<_;rw [←h5'];exact L42.out
 try rw [hX]
 try rw [h5']
 clear hX h5' hz
 refine RG.wp_rgn' (GL X (O8 E4 E5) (fun _ _ _=>True) [] 2 (E5) (0) (bv (h.take 32))) (by kernel_rfl) (by kernel_rfl) GL.start ?_ ?_
 ·refine ⟨?_,?_,?_,trivial⟩
  ·refine GL.ob rfl ?_
   intro a W d V hI hd hpx hbk hf hp
   refine RU.ob_val (v := .slice (some ⟨E5,0,none⟩) 32 32) rfl (RU.wanted_none rfl) (fun ev he hc => ?_) ⟨_,rfl,hI.step (fun _ _ _ _ _ _=>trivial) (Below.refl _ _) 0 _ (by simp) (fun u hu=>by first | (cases hu;rfl) | cases hu) trivial⟩
   have q5:ev (.tmp 5) = .pointer (some ⟨E5,0,none⟩):=(he (.tmp 5)).trans (hf 5 rfl)
   simp only [qF,qD,qE,execOp,YO,YP];rw [q5]
   try simp only [hc]
   first | (go_simp;done) | (go_simp;rfl) | rfl
  ·refine GL.ob rfl ?_
   intro a W d V hI hd hpx hbk hf hp
   refine RU.ob_val (v := .slice (some ⟨E4,0,none⟩) 32 64) rfl (RU.wanted_none rfl) (fun ev he hc => ?_) ⟨_,rfl,hI.step (fun _ _ _ _ _ _=>trivial) (Below.refl _ _) 1 _ (by simp) (fun u hu=>by first | (cases hu;rfl) | cases hu) trivial⟩
   have q4:ev (.tmp 4) = .pointer (some ⟨E4,0,none⟩):=(he (.tmp 4)).trans (hf 4 rfl)
   simp only [qF,qD,qE,execOp,YO,YP];rw [q4]
   try simp only [hc]
   first | (go_simp;done) | (go_simp;rfl) | rfl
  ·refine GL.obs (fun a W d V hI hd hpx hbk hf hp => ?_)
   have hO':Below X.heap.size X W:=hI.be
   have q1:a.eval (.tmp 8) = .slice (some ⟨E5,0,none⟩) 32 32:=(hp 0 8 rfl).trans (hI.kn 0 _ rfl (hpx 0 rfl))
   have q2:a.eval (.tmp 9) = .slice (some ⟨E4,0,none⟩) 32 64:=(hp 1 9 rfl).trans (hI.kn 1 _ rfl (hpx 1 rfl))
   have hth:W.there (E5) (0) (bv (h.take 32)).length:=by rw [ae,List.length_take,HL.out];exact an TH5.out hO' L5.out
   have hrun:=run_copy_cells (P:=Tryz.prog) W 23 23 3 5 (E5) (0) 32 32 ⟨E4,0,none⟩ 32 64 (bv (h.take 32)) Tryz.underlying23 eh (by rw [ae,List.length_take,HL.out];rfl) (fun j u hu=>by rw [dO];exact (dN (aa R4.out hO' L4.out)) j u hu) (fun j hj=>(hth j hj).1) (fun j hj=>(hth j hj).2) (ia _)
   refine RU.ob_run (v:=goInt (bv (h.take 32)).length) (w':=W.setCells (E5) (0) (bv (h.take 32))) rfl (RU.wanted_none rfl) (fun ev he hc => ?_) ⟨_,rfl,GL.stored hI rfl _⟩
   have e1:=(he (.tmp 8)).trans q1
   have e2:=(he (.tmp 9)).trans q2
   simp only [qF,qD,qE,execOp,resolve,invoke,builtin,Sem.run_bind,Sem.run_pure,Result.andThen_ok,List.map_toArray,List.map_cons,List.map_nil,e1,e2,hrun]
 intro W3x dW3 VW3 hal hG
 obtain ⟨hK,W3,W3y,hyW3⟩:=hG.fin (hal 2 (by decide))
 subst hyW3
 have BW3:Hid (Below X.heap.size X W3):=W3y
 have hs0:VW3 0 = .slice (some ⟨E5,0,none⟩) 32 32:=hK 0 _ rfl (hal 0 (by decide))
 have hs1:VW3 1 = .slice (some ⟨E4,0,none⟩) 32 64:=hK 1 _ rfl (hal 1 (by decide))
 obtain ⟨u2W3,hs2⟩ : ∃ u,VW3 2=u:=⟨_,rfl⟩
 simp only [RU.lay,Act.put,hs0,hs1,hs2]
 simp only [qA,qB,qC]
 clear hG hK hal W3y hs0 hs1 hs2
 obtain ⟨Y,hY⟩ : ∃ Y,W3.setCells E5 0 (bv (h.take 32))=Y:=⟨_,rfl⟩
 have tl:(h.take 32).length=32:=by rw [List.length_take,HL.out];rfl
 have sY:Y.heap.size=W3.heap.size:=by rw [←hY];exact bR _ _ _ _
 have R5Y:Hid (Y.rangeAt E5 0 (bv (h.take 32))):=by rw [←hY];exact World.rangeAt_setCells_same _ _ _ _ (by rw [ae,tl];exact an TH5.out BW3.out L5.out)
 have THY:Hid (Y.there E5 0 32):=by rw [←hY];exact World.there_setCells (an TH5.out BW3.out L5.out) _ _ _
 have R4Y:Hid (Y.rangeAt E4 0 (bv h)):=by rw [←hY];exact World.rangeAt_setCells_apart (aa R4.out BW3.out L4.out) _ _ _ (.inl (by have:=G5.out;omega))
 have LY:Hid (E5<Y.heap.size):=by show _<_;rw [sY];exact YI L5.out BW3.out.size
 have BY:Hid (Below U.heap.size U Y):=by rw [←hY];exact af (by have:=G4.out;have:=G5.out;have:=SU.out;omega) _ _ (BX.out.trans (BW3.out.mono BX.out.size))
 have C0:=cell_of R5Y.out (i:=0) (by rw [tl];omega)
 rw [zG (by omega)] at C0
 have F0:=(THY.out 0 (by omega)).2
 rw [Nat.zero_add] at F0
 rw [hY]
 clear hY sY tl
 go_upto_region 5 with (fail)
 obtain ⟨Y1,hY1⟩ : ∃ W,Y.setCell ⟨E5,0,none⟩ (.int .u8 (bits .and .u8 (gi h 0) 248))=W:=⟨_,rfl⟩
 have tl:(h.take 32).length=32:=by rw [List.length_take,HL.out];rfl
 have R51:Hid (Y1.rangeAt E5 0 (bv ((h.take 32).set 0 (bits .and .u8 (gi h 0) 248)))):=by rw [←hY1];exact ji R5Y.out (by rw [tl];exact THY.out) (by rw [tl];omega) _
 have TH1:Hid (Y1.there E5 0 32):=by rw [←hY1];exact World.there_setCells (vs:=[.int .u8 (bits .and .u8 (gi h 0) 248)]) THY.out _ _
 have C1:=cell_of R51.out (i:=31) (by rw [List.length_set,tl];omega)
 rw [LG (by omega),zG (by omega)] at C1
 have F1:=(TH1.out 31 (by omega)).2
 rw [Nat.zero_add] at F1
 rw [hY1]
 clear C0 F0
 go_upto_region 6 with (fail)
 obtain ⟨X6,hX6⟩ : ∃ W,Y1.setCell ⟨E5,31,none⟩ (.int .u8 (bits .or .u8 (bits .and .u8 (gi h 31) 127) 64))=W:=⟨_,rfl⟩
 have R56:Hid (X6.rangeAt E5 0 (bv S)):=by rw [←hX6,←HSET.out];exact ji R51.out (by rw [List.length_set,tl];exact TH1.out) (by rw [List.length_set,tl];omega) _
 have B16:Below (D+2) Y X6:=by
  rw [←hX6,←hY1]
  have:=G4.out;have:=G5.out
  exact af (B:=D+2) (b:=E5) (by omega) [.int .u8 (bits .or .u8 (bits .and .u8 (gi h 31) 127) 64)] 31 (af (B:=D+2) (b:=E5) (by omega) [.int .u8 (bits .and .u8 (gi h 0) 248)] 0 (Below.refl _ Y))
 have R46:Hid (X6.rangeAt E4 0 (bv h)):=by
  rw [←hX6,←hY1]
  have:=G5.out
  exact fQ (fQ R4Y.out (by omega) _ _) (by omega) _ _
 have s6:X6.heap.size=Y.heap.size:=by rw [←hX6,←hY1];simp [World.setCell]
 have L56:Hid (E5<X6.heap.size):=by show _<_;rw [s6];exact LY.out
 have L46:Hid (E4<X6.heap.size):=by show _<_;rw [s6];have:=G5.out;have:=LY.out;omega
 have BX6:Hid (Below U.heap.size U X6):=BY.out.trans (by rw [SU.out];exact B16)
 have THR6:Hid (X6.there (D+1) 0 32):=an THR.out BX6.out (by have:=SU.out;omega)
 have LR6:Hid (D+1<X6.heap.size):=YI (by have:=SU.out;omega) BX6.out.size
 rw [hX6]
 clear hX6 hY1 tl C1 F1 s6 B16
 refine RU.wp_rgn' [1,3,4,5] (rh6f E4 S) (fun i=>if i=0 then 2 else 1) (Ol X6 (D+1) S (h.drop 32)) (by kernel_rfl) (by kernel_rfl) (show Below X6.heap.size X6 _ from (Below.refl _ _).drew) ?_ ?_
 ·refine ⟨?_,?_,?_,?_,?_,?_,trivial⟩
  ·refine RU.ObT.silent rfl (fun a W k0 V hO hf hp hk => ?_)
   have hO':Below X6.heap.size X6 W:=AE hO hk
   have q5:a.eval (.tmp 5) = .pointer (some ⟨E5,0,none⟩):=hf 5 rfl
   exact RU.ob_op rfl (RU.wanted_none rfl) (wp_load_mid 22 (.tmp 5) rfl (E5) (0) q5 (bv S) _ (aa R56.out hO' L56.out) Tryz.underlying22 rfl (aD HSL.out) ⟨rfl,hO⟩)
  ·refine RU.ObT.loud (j:=0) rfl (fun a W V hO hf hp => ?_)
   have hB:Below X6.heap.size X6 W:=hO
   have hb1:Below W.heap.size W (W.alloc (.cells #[] 5)):=(Below.refl _ W).alloc (Nat.le_refl _) _
   refine RU.ob_run (v := .slice (some ⟨W.heap.size,0,none⟩) 0 0) (w':=W.alloc (.cells #[] 5)) rfl (RU.wanted_none rfl) (fun ev he hc => ?_) ⟨_,rfl,hB.trans (hb1.mono hB.size),(Dz W).mono hB.size⟩
   simp only [qF,qD,qE,execOp]
   simp only [List.map_toArray,List.map_nil]
   go_simp
  ·refine RU.ObT.pure rfl rfl rfl (fun a V hf hp ev he hc W => ?_)
   have q4:ev (.tmp 4) = .pointer (some ⟨E4,0,none⟩):=(he (.tmp 4)).trans (hf 4 rfl)
   simp only [qF,qD,qE,execOp,YO,YP];rw [q4]
   try simp only [hc]
   first | (go_simp;done) | (go_simp;rfl) | rfl
  ·refine RU.ObT.loud (j:=1) rfl (fun a W V hO hf hp => ?_)
   obtain ⟨hB,hOw⟩:=hO
   have q1:a.eval (.tmp 21)=V 0:=hp 1 21 rfl
   have q2:a.eval (.tmp 22) = .slice (some ⟨E4,32,none⟩) 32 32:=hp 2 22 rfl
   have hsl:Sl W (.slice (some ⟨E4,32,none⟩) 32 32) (h.drop 32):=bo HDL.out (xy HL.out (aa R46.out hB L46.out)) (YI L46.out hB.size)
   obtain ⟨v',w',hrun,r1,r2,r3⟩:=vb W X6.heap.size (V 0) hOw _ hsl (fun e=>by have:=HDL.out.len;rw [e] at this;cases this) hB.size (by rw [HDL.out.len];simp)
   refine RU.ob_run (v:=v') (w':=w') rfl (RU.wanted_none rfl) (fun ev he hc => ?_) ⟨_,rfl,hB.grown r2 hB.size (fun b hb=>hOw.blk b hb),r1⟩
   have h1:=(he (.tmp 21)).trans q1
   have h2:=(he (.tmp 22)).trans q2
   simp only [qF,qD,qE,execOp,resolve,invoke,builtin,Sem.run_bind,Sem.run_pure,Result.andThen_ok,List.map_toArray,List.map_cons,List.map_nil,h1,h2,hrun]
  ·refine RU.ObT.loud (j:=2) rfl (fun a W V hO hf hp => ?_)
   obtain ⟨hB,hOw⟩:=hO
   have q1:a.eval (.tmp 2) = .pointer (some ⟨D+1,0,none⟩):=hf 2 rfl
   have q2:a.eval (.tmp 20) = .agg (bv S).toArray:=hp 0 20 rfl
   exact RU.ob_op rfl (RU.wanted_none rfl) (wp_store_mid 22 (.tmp 2) (.tmp 20) rfl (D+1) 0 (bv S).toArray q1 q2 (by rw [List.size_toArray,ae,HSL.out.len];exact an THR6.out hB LR6.out) (by rw [List.size_toArray];exact aD HSL.out) (ar _) ⟨_,rfl,W,hB,hOw,by simp only [YN]⟩)
  ·refine RU.ObT.loud (j:=3) rfl (fun a W V hO hf hp => ?_)
   refine RU.ob_val (v:=V 1) rfl (RU.wanted_none rfl) (fun ev he hc => ?_) ⟨_,rfl,rfl,hO⟩
   have q:ev (.tmp 23)=V 1:=(he (.tmp 23)).trans (hp 3 23 rfl)
   simp only [qF,qD,qE,execOp,YO,YP];rw [q]
   first | (go_simp;done) | (go_simp;rfl) | rfl
 intro W6 VW6 hOW6
 have PW6:Hid (VW6 3=VW6 1 ∧ ∃ W0,Below X6.heap.size X6 W0∧Ow X6.heap.size W0 (VW6 1) (h.drop 32)∧W6=W0.setCells (D+1) 0 (bv S)):=hOW6
 clear hOW6
 simp only [RU.lay,RU.val,show RU.at' [1,3,4,5] 0=none from rfl,show RU.at' [1,3,4,5] 1=some 0 from rfl,show RU.at' [1,3,4,5] 2=none from rfl,show RU.at' [1,3,4,5] 3=some 1 from rfl,show RU.at' [1,3,4,5] 4=some 2 from rfl,show RU.at' [1,3,4,5] 5=some 3 from rfl,rh6f,Act.put]
 simp only [qA,qB,qC]
 obtain ⟨hu,W0,k1,k2,k3⟩:=PW6.out
 have qq:W6.rangeAt (D+1) 0 (bv S):=by rw [k3];exact World.rangeAt_setCells_same _ _ _ _ (by rw [ae,HSL.out.len];exact an THR6.out k1 LR6.out)
 have bF:Below w.heap.size w W6:=by rw [k3];exact af (by rw [HD.out];omega) _ _ ((BU.out.trans (BX6.out.mono BU.out.size)).trans (k1.mono (Nat.le_trans BU.out.size BX6.out.size)))
 have oF:Ow w.heap.size W6 (VW6 1) (h.drop 32):=by
  have hsz:D+2≤X6.heap.size:=by rw [←SU.out];exact BX6.out.size
  rw [k3]
  refine (k2.mono (by rw [HD.out];omega)).keep (fun b hb => ?_)
  have:=k2.blk b hb
  exact nE (by omega) _ _ _
 rw [hu]
 obtain ⟨vF,hvF⟩ : ∃ v,VW6 1=v:=⟨_,rfl⟩
 rw [hvF] at oF
 rw [hvF]
 have OF:Hid (Ow w.heap.size W6 vF (h.drop 32)):=oF
 have QQ:Hid (W6.rangeAt (D+1) 0 (bv S)):=qq
 have BF:Hid (Below w.heap.size w W6):=bF
 clear hu k1 k2 k3 qq bF oF hvF
 go_wp2_with fail
 refine bodyPost_ret (v := .tuple #[.agg (bv S).toArray,vF]) ?_ rfl ⟨vF,by rw [HSE.out],by rw [HPF.out];exact OF.out,BF.out⟩
 simp only [results,Tryz.results27]
 simp [Act.put,asAddr,run_loadVar_mid _ (D+1) 0 22 (bv S) _ QQ.out Tryz.underlying22 rfl (aD HSL.out)]
set_option maxHeartbeats 4000000 in
theorem Dy (s:List Int) (hs:L32 s) (w:World) :
  Calls Tryz.prog 15 #[.agg (bv s).toArray] w fun e w'=>e = .returned (.agg (bv (Bs (Ve.sk s))).toArray)∧Below w.heap.size w w':=by
 have HS:Hid (L32 s):=hs
 have HHV:Hid (∀ W,Calls Tryz.prog 27 #[.agg (bv s).toArray] W fun e w' => ∃ v',e = .returned (.tuple #[.agg (bv (Ve.sk s)).toArray,v'])∧Ow W.heap.size w' v' (Ve.pf s)∧Below W.heap.size W w'):=fun W=>mn s hs W
 obtain ⟨S,hS⟩ : ∃ S,Ve.sk s=S:=⟨_,rfl⟩
 have HSL:Hid (L32 S):=by rw [←hS];exact Ve.oI _
 rw [hS] at HHV ⊢
 have HYL:Hid (L32 (Bs S)):=L32.bs _
 have HBC:Hid (∀ W,Calls Tryz.prog 28 #[.agg (bv S).toArray] W fun e w'=>e = .returned (.agg (bv (Bs S)).toArray)∧Below W.heap.size W w'):=fun W=>nX HSL.out W
 obtain ⟨Y,hY⟩ : ∃ Y,Bs S=Y:=⟨_,rfl⟩
 rw [hY] at HYL HBC ⊢
 have ra:=eF w (bv s) 22 (0,0)
 have hz:=bG
 obtain ⟨Z,hZ⟩ : ∃ Z,(bv (List.replicate 32 0)).toArray=Z:=⟨_,rfl⟩
 have hZs:Z.size=32:=by rw [←hZ];simp [bv]
 have HZS:Hid (Z.size=32):=hZs
 have HZE:Hid ((bv z32).toArray=Z):=hZ
 rw [hZ] at hz
 obtain ⟨A,hA⟩ : ∃ A,(bv s).toArray=A:=⟨_,rfl⟩
 rw [hA] at ra ⊢
 obtain ⟨U,hU⟩ : ∃ U,(w.alloc (.cells A 22)).alloc (.cells Z 22)=U:=⟨_,rfl⟩
 have sU:U.heap.size=w.heap.size+2:=by rw [←hU];simp
 have bU:Below w.heap.size w U:=by rw [←hU];exact ((Below.refl _ w).alloc (Nat.le_refl _) _).alloc (by simp) _
 have rp:U.rangeAt w.heap.size 0 (bv s):=by rw [←hU];exact aa ra ((Below.refl _ _).alloc (Nat.le_refl _) _) (by simp)
 have rr:U.heap[w.heap.size+1]? = some (.cells Z 22 (0,0)):=by
  rw [←hU];show ((w.heap.push _).push _)[w.heap.size+1]? = _;rw [Array.getElem?_push,if_pos (by simp)]
 have thr:U.there (w.heap.size+1) 0 32:=aO rr 0 32 (by rw [HZS.out];exact Nat.le_refl _)
 have BU:Hid (Below w.heap.size w U):=bU
 obtain ⟨D,hD⟩ : ∃ D,w.heap.size=D:=⟨_,rfl⟩
 have HD:Hid (w.heap.size=D):=hD
 rw [hD] at sU rp thr
 have SU:Hid (U.heap.size=D+2):=sU
 have THR:Hid (U.there (D+1) 0 32):=thr
 have RS_0:Hid (U.rangeAt D 0 (bv s)):=rp
 have LS_0:Hid (D<U.heap.size):=by show _<_;omega
 clear ra sU bU rp rr thr hA hs hS hY hZ hZs
 go_enter Tryz.func15,Tryz.ntmps15
 go_upto_region 1 with (fail)
 try rw [hU]
 try rw [hD]
 clear hU hD
 go_upto_region 2 with (first
  | (refine wpList_load_mid rfl 22 (.tmp 1) rfl (D) 0 rfl (bv s) _ RS_0.out Tryz.underlying22 rfl (aD HS.out) ?_)
  | (go_at_call 27;refine (HHV.out U).mono ?_;rintro e W1 ⟨v1,rfl,g0,g1⟩;have BW1:Hid (Below U.heap.size U W1):=g1;clear g0 g1)
  | (refine wpList_store_mid rfl 22 (.tmp 3) (.tmp 8) rfl W1.heap.size 0 (bv S).toArray rfl rfl (bM W1 (show (bv S).toArray.size=Z.size by rw [List.size_toArray,ae,HSL.out.len,HZS.out])) (by rw [List.size_toArray];exact aD HSL.out) (ar _) ?_;simp only [YN]))
 obtain ⟨e3,he3⟩ : ∃ n,W1.heap.size=n:=⟨_,rfl⟩
 obtain ⟨W2,hW2⟩ : ∃ W,(W1.alloc (.cells Z 22)).setCells W1.heap.size 0 (bv S)=W:=⟨_,rfl⟩
 obtain ⟨l1,l2,l3⟩:=aS (by rw [ae,HSL.out.len,HZS.out]) (by rw [ae,HSL.out.len];omega) hW2
 have BW2:Hid (Below W1.heap.size W1 W2):=l2
 have R3:Hid (W2.rangeAt e3 0 (bv S)):=by rw [←he3];exact l1
 try rw [hW2]
 try rw [he3]
 clear l1 l2 l3 hW2 he3 hz
 have BZ:Hid (Below w.heap.size w W2):=(BU.out.trans (BW1.out.mono BU.out.size)).trans (BW2.out.mono (Nat.le_trans BU.out.size BW1.out.size))
 have TH2:Hid (W2.there (D+1) 0 32):=an (an THR.out BW1.out (by have:=SU.out;omega)) BW2.out (YI (by have:=SU.out;omega) BW1.out.size)
 have LT2:Hid (D+1<W2.heap.size):=YI (YI (by have:=SU.out;omega) BW1.out.size) BW2.out.size
 go_wp2_with (first
  | (refine wpList_load_mid rfl 22 (.tmp 3) rfl (e3) 0 rfl (bv S) _ R3.out Tryz.underlying22 rfl (aD HSL.out) ?_)
  | (go_at_call 28;refine (HBC.out W2).mono ?_;rintro e W3 ⟨rfl,g1⟩;have BW3:Hid (Below W2.heap.size W2 W3):=g1;clear g1)
  | (refine wpList_store_mid rfl 22 (.tmp 2) (.tmp 11) rfl (D+1) 0 (bv Y).toArray rfl rfl (by rw [List.size_toArray,ae,HYL.out.len];exact an TH2.out BW3.out LT2.out) (by rw [List.size_toArray];exact aD HYL.out) (ar _) ?_;simp only [YN]))
 have qq:(W3.setCells (D+1) 0 (bv Y)).rangeAt (D+1) 0 (bv Y):=World.rangeAt_setCells_same _ _ _ _ (by rw [ae,HYL.out.len];exact an TH2.out BW3.out LT2.out)
 have hbl:Below w.heap.size w (W3.setCells (D+1) 0 (bv Y)):=af (by rw [HD.out];omega) _ _ (BZ.out.trans (BW3.out.mono BZ.out.size))
 refine bodyPost_ret (v := .agg (bv Y).toArray) ?_ rfl ⟨rfl,hbl⟩
 simp only [results,Tryz.results15]
 simp [Act.put,asAddr,run_loadVar_mid _ (D+1) 0 22 (bv Y) _ qq Tryz.underlying22 rfl (aD HYL.out)]
end Go.Proofs.YtajehiidpecknaaGreatDoor.Wi
