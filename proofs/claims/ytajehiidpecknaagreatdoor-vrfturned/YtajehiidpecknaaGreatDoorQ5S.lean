import Derived.Test.YtajehiidpecknaaGreatDoorShaG
set_option linter.all false
namespace Go.Proofs.YtajehiidpecknaaGreatDoor.Sh.Q5
open Go Go.RowKit
def qΩ (I:St→World→Prop) (s s':St):Nat→(Nat→Value)→World→Prop
 | 0,_,W=>I s W
 | 1,U,W=>I s W∧U 0 = .agg s'.row
 | _,_,W=>I s' W
def qK:Nat→Nat:=fun _=>0
def qfn4 (s:St) (x y:Value):Nat→Value
 | 0 => .agg s.row
 | 1=>x
 | 2=>y
 | _=>undef
def qfn (s:St) (y:Value):Nat→Value
 | 0 => .agg s.row
 | 1=>y
 | _=>undef
def fA (m:Nat→BitVec 8) (k r:Nat):Nat→BitVec 8:=mv (fun _=>0) 0 r (fun i=>m (128*k+i))
def fB (m:Nat→BitVec 8) (k r:Nat):Nat→BitVec 8:=fun i=>if i=r then 128 else fA m k r i
def fC (m:Nat→BitVec 8) (k r e:Nat):Nat→BitVec 8:=mv (fB m k r) (e - 16) 8 (fun _=>0)
def fD (m:Nat→BitVec 8) (n k r e:Nat):Nat→BitVec 8:=mv (fC m k r e) (e - 8) 8 (fun i=>(BitVec.ofNat 64 (8*n) >>> (56 - 8*i)).setWidth 8)
theorem Oe {w W:World} {s:St} (h:MX w W s):MY w (W.alloc (.cells yl 88)) s W.heap.size (fun _=>0) :=
 ⟨h.more ((Below.refl _ _).alloc (Nat.le_refl _) _),h.size,by rw [←AH];exact heap_alloc_new _ _⟩
theorem CD {w W W1:World} {s:St} {q r:Nat} {c:Nat→BitVec 8} (h:MY w W s q (fun _=>0)) (hr:r≤256) (hg:W.grownBy W1 (some q))
  (hx:W1.heap[q]? = some (.cells ((jr 256 (fun _=>0)).toList.take 0 ++ (((List.range r).map fun i=>B (c i)) ++ (jr 256 (fun _=>0)).toList.drop (0+((List.range r).map fun i=>B (c i)).length))).toArray 88 (0,0))):MY w W1 s q (mv (fun _=>0) 0 r c):=by
 have hp:=h.pos
 rw [ug 256 (fun _=>0) 0 r c (by omega)] at hx
 have hz:=h.mx.size
 exact ⟨⟨h.mx.below.grown hg h.mx.below.size (fun b hb=>by cases hb;omega),(hg.block _ (by omega) (by intro e;cases e;omega)).trans h.mx.res,(hg.block _ (by omega) (by intro e;cases e;omega)).trans h.mx.st⟩,hp,hx⟩
theorem DY {w W:World} {s:St} {q r k:Nat} {m:Nat→BitVec 8} (h:MY w W s q (fA m k r)) (hr:r<256):MY w (W.setCell ⟨q,r,none⟩ (.int .u8 128)) s q (fB m k r) :=
 h.set r [B 128] (by simp;omega) (fun i hi=>by
  simp only [List.length_singleton,fB]
  by_cases e:i=r
  ·subst e;rw [if_pos rfl,if_pos (by omega)];simp
  ·rw [if_neg e]
   have hne : ¬ (r≤i∧i<r+1):=by omega
   rw [if_neg hne])
theorem K8 {w W:World} {s:St} {q r k e:Nat} {m:Nat→BitVec 8} (h:MY w W s q (fB m k r)) (he:16≤e∧e≤256):MY w (W.setCells q (e - 16) (eI 0)) s q (fC m k r e) :=
 h.set (e - 16) _ (by simp [eI,ic];omega) (fun i hi=>by
  have hl:(eI 0).length=8:=rfl
  rw [hl,fC,mv]
  by_cases h1:e - 16≤i∧i<e - 16+8
  ·rw [if_pos h1,if_pos h1,jR _ _ (by omega)];simp
  ·rw [if_neg h1,if_neg h1])
theorem JG {w W:World} {s:St} {q r k e n:Nat} {m:Nat→BitVec 8} (h:MY w W s q (fC m k r e)) (he:16≤e∧e≤256):MY w (W.setCells q (e - 8) (eI (BitVec.ofNat 64 (8*n)))) s q (fD m n k r e) :=
 h.set (e - 8) _ (by simp [eI,ic];omega) (fun i hi=>by
  have hl:(eI (BitVec.ofNat 64 (8*n))).length=8:=rfl
  rw [hl,fD,mv]
  by_cases h1:e - 8≤i∧i<e - 8+8
  ·rw [if_pos h1,if_pos h1,jR _ _ (by omega)]
  ·rw [if_neg h1,if_neg h1])
theorem xj (m:Nat→BitVec 8) (n k r e i:Nat) (hk:n=128*k+r) (hr:r<128) (he:128*ga n=128*k+e) (hi:i<e) (he2:r+17≤e) (he3:e≤256):fD m n k r e i=aG m n (128*k+i):=by
 unfold fD fC fB fA aG bQ mv
 rw [he]
 by_cases h1:e - 8≤i
 ·rw [if_pos (by omega),if_neg (by omega),if_neg (by omega),if_neg (by omega),if_neg (by omega),show 128*k+i - (128*k+e - 16) - 8=i - (e - 8) by omega]
 ·rw [if_neg (by omega)]
  by_cases h2:e - 16≤i
  ·rw [if_pos (by omega),if_neg (by omega),if_neg (by omega),if_neg (by omega),if_pos (by omega)]
  ·rw [if_neg (by omega)]
   show (if i=r then (128:BitVec 8) else (if 0≤i∧i<0+r then m (128*k+(i - 0)) else 0))=_
   by_cases h3:i=r
   ·rw [if_pos h3,if_neg (by omega),if_pos (by omega)]
   ·rw [if_neg h3]
    by_cases h4:i<r
    ·rw [if_pos (by omega),if_pos (by omega),Nat.sub_zero]
    ·have hne : ¬ (0≤i∧i<0+r):=by omega
     rw [if_neg hne,if_neg (by omega),if_neg (by omega),if_pos (by omega)]
theorem qV (m:Nat→BitVec 8) (n k r:Nat) (hk:n=128*k+r) (hr:r<112) (S:St) (h:gg aW cj m n=S):compress aW (blocks aW cj m k) (fD m n k r 128)=S:=by
 have hb:ga n=k+1:=by unfold ga;omega
 rw [←h,gg,hb,blocks,show k=n/128 by omega,nP,show n/128=k by omega]
 exact dF aW _ _ _ fun i hi=>xj m n k r 128 i hk (by omega) (by rw [hb];omega) (by omega) (by omega) (by omega)
theorem zZ (m:Nat→BitVec 8) (n k r:Nat) (hk:n=128*k+r) (hr:112≤r∧r<128) (S:St) (h:gg aW cj m n=S):compress aW (compress aW (blocks aW cj m k) (fD m n k r 256)) (fun i=>fD m n k r 256 (128+i))=S:=by
 have hb:ga n=k+1+1:=by unfold ga;omega
 rw [←h,gg,hb,blocks,blocks,show blocks aW cj (aG m n) k=blocks aW cj m k by rw [show k=n/128 by omega,nP]]
 rw [dF aW (blocks aW cj m k) (fD m n k r 256) (fun i=>aG m n (128*k+i)) fun i hi=>xj m n k r 256 i hk (by omega) (by rw [hb];omega) (by omega) (by omega) (by omega)]
 exact dF aW _ _ _ fun i hi=>(xj m n k r 256 (128+i) hk (by omega) (by rw [hb];omega) (by omega) (by omega) (by omega)).trans (by rw [show 128*k+(128+i)=128*(k+1)+i by omega])
theorem qI {w W:World} {s:St} (h:MX w W s):MX w W s:=h
set_option maxRecDepth 100000 in
set_option maxHeartbeats 2000000 in
theorem AB (S:St) (m:Nat→BitVec 8) (n:Nat) (v:Value) (hS:gg aW cj m n=S) (hn:n<1125899906842624) (w:World) (hT:Tabs w) (hv:Bytes w v n m w.heap.size) :
  Calls Tryz.prog 22 #[v] w fun e w'=>e = .returned (.agg (dm S))∧Below w.heap.size w w':=by
 have HT:Hid (Tabs w):=hT
 have hl:Hid (0<w.heap.size∧3<w.heap.size):=hT.lt
 have HS:Hid (gg aW cj m n=S):=hS
 have hz1:=xY
 have hz2:=DW
 have gn:(n:Int)<1125899906842624:=by omega
 obtain ⟨s0,hs0⟩ : ∃ s0,s0=cj:=⟨_,rfl⟩
 have hsq : ∀ i,i<8→w.cell? ⟨0,i,none⟩=some (U (s0.at i)):=by rw [hs0];exact hT.sq
 obtain ⟨sa,sb,sc,sd,se,sf,sg,sh⟩:=s0
 have g0:w.cell? ⟨0,0,none⟩=some (U sa):=hsq 0 (by omega)
 have g1:w.cell? ⟨0,1,none⟩=some (U sb):=hsq 1 (by omega)
 have g2:w.cell? ⟨0,2,none⟩=some (U sc):=hsq 2 (by omega)
 have g3:w.cell? ⟨0,3,none⟩=some (U sd):=hsq 3 (by omega)
 have g4:w.cell? ⟨0,4,none⟩=some (U se):=hsq 4 (by omega)
 have g5:w.cell? ⟨0,5,none⟩=some (U sf):=hsq 5 (by omega)
 have g6:w.cell? ⟨0,6,none⟩=some (U sg):=hsq 6 (by omega)
 have g7:w.cell? ⟨0,7,none⟩=some (U sh):=hsq 7 (by omega)
 have HM0:Hid (MX w ((w.alloc (.cells zb 29)).alloc (.cells #[U sa,U sb,U sc,U sd,U se,U sf,U sg,U sh] 86)) (blocks aW cj m 0)):=⟨((Below.refl _ _).alloc (Nat.le_refl _) _).alloc (by simp) _,heap_alloc2_old _ _ _,by rw [show blocks aW cj m 0=cj from rfl,←hs0];exact heap_alloc2_new _ _ _⟩
 clear hs0 hsq
 have hlt:0<w.heap.size:=hT.lt.1
 clear hT hS
 have shape : ∃ ad cap,v = .slice ad n cap∧n≤cap∧(0<n → ∃ b off,ad=some ⟨b,off,none⟩∧b<w.heap.size ∧ ∀ i,i<n→w.cell? ⟨b,off+i,none⟩=some (B (m i))):=by
  rcases hv with ⟨⟨ad,rfl⟩,rfl⟩ | ⟨b,off,cap,rfl,hc,hlt,_,hm⟩
  ·exact ⟨ad,0,rfl,Nat.le_refl _,fun h=>by omega⟩
  ·exact ⟨_,cap,rfl,hc,fun _=>⟨b,off,rfl,hlt,hm⟩⟩
 obtain ⟨ad,cap,rfl,hcap,hsrc⟩:=shape
 have HSRC:Hid (0<n → ∃ b off,ad=some ⟨b,off,none⟩∧b<w.heap.size ∧ ∀ i,i<n→w.cell? ⟨b,off+i,none⟩=some (B (m i))):=hsrc
 clear hv hsrc
 go_enter Tryz.func22,Tryz.ntmps22
 go_wp2_with fail
 generalize (w.alloc (.cells zb 29)).alloc (.cells #[U sa,U sb,U sc,U sd,U se,U sf,U sg,U sh] 86)=w0 at HM0 ⊢
 clear g0 g1 g2 g3 g4 g5 g6 g7 hlt
 go_loopw [4] (fun x wr => ∃ (j r c:Nat) (A:Option Addr),n=128*j+r∧r≤c∧x = .slice A r c∧(0<r → ∃ b o,A=some ⟨b,o,none⟩∧b<w.heap.size ∧ ∀ i,i<r→w.cell? ⟨b,o+i,none⟩=some (B (m (128*j+i))))∧MX w wr (blocks aW cj m j)) (fun x _=>lenOf x)
 case atStart=>exact ⟨0,n,cap,ad,by omega,hcap,rfl,by simpa using HSRC.out,HM0.out⟩
 case round =>
  obtain ⟨j,r,c,A,hj,hrc,rfl,hsr,hmx⟩:=hrel
  obtain ⟨s,hs⟩ : ∃ s,s=blocks aW cj m j:=⟨_,rfl⟩
  rw [←hs] at hmx
  have HI:Hid (MX w wr s):=hmx
  have HSB:Hid (s=blocks aW cj m j):=hs
  have HJ:Hid (n=128*j+r):=hj
  have HSR:Hid (0<r → ∃ b o,A=some ⟨b,o,none⟩∧b<w.heap.size ∧ ∀ i,i<r→w.cell? ⟨b,o+i,none⟩=some (B (m (128*j+i)))):=hsr
  clear hmx hs hj hsr HM0 HSRC
  by_cases h128:128≤r
  ·have gr:(r:Int)≥128:=by omega
   have gc:(128:Int)≤(c:Int):=by omega
   obtain ⟨b,o,rfl,hblt,hcell⟩:=HSR.out (by omega)
   have HC:Hid (∀ i,i<128→w.cell? ⟨b,o+i,none⟩=some (B (m (128*j+i)))):=fun i hi=>hcell i (by omega)
   have HC2:Hid (∀ i,i<r→w.cell? ⟨b,o+i,none⟩=some (B (m (128*j+i)))):=hcell
   obtain ⟨s',hs'⟩ : ∃ s',compress aW s (fun i=>m (128*j+i))=s':=⟨_,rfl⟩
   have HC':Hid (compress aW s (fun i=>m (128*j+i))=s'):=hs'
   have HN:Hid (s'=blocks aW cj m (j+1)):=by rw [←hs',HSB.out];rfl
   clear hcell hs'
   go_wp2_with fail
   refine RT.wp_rgn' [3,4] (qfn4 s (.slice (some ⟨b,o,none⟩) r c) (.slice (some ⟨b,o,none⟩) 128 c)) qK (qΩ (fun z W=>MX w W z) (s) (s')) (by kernel_rfl) (by kernel_rfl) ?_ ?_ ?_
   ·exact HI.out.drew
   ·refine ⟨?_,?_,?_,?_,?_,trivial⟩
    ·refine RT.ObT.silent rfl (fun a W k0 V hO hf hp hk => ?_)
     have hk0:k0≤0:=hk
     obtain rfl:k0=0:=by omega
     exact RT.ob_op rfl (RT.wanted_none rfl) (wp_load_mid 86 (.tmp 3) rfl (w.heap.size+1) 0 (hf 3 rfl) (s).row.toList _ (qI hO).range Tryz.underlying86 rfl (by rw [fF];exact dQ) ⟨rfl,hO⟩)
    ·refine RT.ObT.pure rfl rfl rfl (fun a V hf hp ev he hc W => ?_)
     have q4:ev (.tmp 4) = .slice (some ⟨b,o,none⟩) r c:=(he (.tmp 4)).trans (hf 4 rfl)
     simp only [qF,qD,qE,execOp];rw [q4]
     first | (go_simp;done) | (go_simp;rfl)
    ·refine RT.ObT.pure rfl rfl rfl (fun a V hf hp ev he hc W => ?_)
     have q16:ev (.tmp 16) = .slice (some ⟨b,o,none⟩) r c:=(he (.tmp 16)).trans (hp 1 16 rfl)
     simp only [qF,qD,qE,execOp];rw [q16]
     try simp only [hc]
     first | (go_simp;done) | (go_simp;rfl)
    ·refine RT.ObT.loud (j:=0) rfl (fun a W V hO hf hp => ?_)
     have e1:a.eval (.tmp 15) = .agg (s).row:=hp 0 15 rfl
     have e2:a.eval (.tmp 17) = .slice (some ⟨b,o,none⟩) 128 c:=hp 2 17 rfl
     refine RT.ob_call (g:=59) (args := #[.agg (s).row,.slice (some ⟨b,o,none⟩) 128 c]) rfl (RT.wanted_none rfl) (fun ev he hc => ?_) ((oE (fun i=>m (128*j+i)) (s) (s') HC'.out b o 128 c (by omega) (by omega) W (fun i hi=>((qI hO).below.cell (p:=⟨b,o+i,none⟩) hblt).trans (HC.out i hi)) (HT.out.below (qI hO).below hl.out).cu).mono ?_)
     ·have h1:=(he (.tmp 15)).trans e1
      have h2:=(he (.tmp 17)).trans e2
      have hfn:=he (.func 59)
      simp only [qF,qD,qE,execOp]
      simp only [resolve,invoke,Sem.run_bind,Sem.run_pure,Result.andThen_ok,List.map_toArray,List.map_cons,List.map_nil,h1,h2,hfn,Act.eval]
      rfl
     ·rintro e W' ⟨rfl,hb⟩
      exact ⟨_,rfl,_,rfl,hO.more hb,rfl⟩
    ·refine RT.ObT.loud (j:=1) rfl (fun a W V hO hf hp => ?_)
     obtain ⟨hO1,hO2⟩:=hO
     have e3:a.eval (.tmp 18) = .agg (s').row:=(hp 3 18 rfl).trans hO2
     exact RT.ob_op rfl (RT.wanted_none rfl) (wp_store_mid 86 (.tmp 3) (.tmp 18) rfl (w.heap.size+1) 0 (s').row (hf 3 rfl) e3 ((qI hO1).there _) (by rw [gN];exact dQ) (St.one _) ⟨_,rfl,hO1.put _⟩)
   ·intro w1 V hO
    have HO:Hid (MX w w1 s'):=hO
    clear hO
    simp only [RT.lay,RT.val,RT.at',qfn4,Act.put]
    by_cases hc:c=128
    ·subst hc
     obtain rfl:r=128:=by omega
     go_wp2
     go_roundw
     case rel=>exact ⟨j+1,0,0,_,by have:=HJ.out;omega,by omega,rfl,fun h=>by omega,by rw [←HN.out];exact HO.out⟩
     case measure=>simp [lenOf]
    ·go_wp2
     go_roundw
     case rel=>exact ⟨j+1,r - 128,c - 128,_,by have:=HJ.out;omega,by omega,rfl,fun h=>⟨b,o+128,rfl,hblt,fun i hi=>by rw [Nat.add_assoc,HC2.out _ (by omega),show 128*j+(128+i)=128*(j+1)+i by omega]⟩,by rw [←HN.out];exact HO.out⟩
     case measure=>simp [lenOf];omega
  ·have gr : ¬ ((r:Int)≥128):=by omega
   have gr':decide ((128:Int)≤(r:Int))=false:=by simp;omega
   have g256:(r:Int)<256:=by omega
   have HY:Hid (MY w (wr.alloc (.cells yl 88)) s wr.heap.size (fun _=>0)):=Oe HI.out
   have sl0:=fun w1=>vv w1 88 5 256 wr.heap.size 0 Tryz.underlying88 cq
   have sl1:=fun w1=>Bf w1 88 5 256 wr.heap.size 0 128 128 rfl Tryz.underlying88 cq (by omega)
   by_cases hr0:r=0
   ·subst hr0
    have HY1:Hid (MY w (wr.alloc (.cells yl 88)) s wr.heap.size (fA m j 0)):=by
     have e:fA m j 0=fun _=>0:=by funext i;unfold fA mv;rw [if_neg (by omega)]
     rw [e];exact HY.out
    go_wp2_with (refine wpList_copy_nothing rfl _ _ 23 23 rfl 5 Tryz.underlying23 cq (some ⟨wr.heap.size,0,none⟩) A 256 256 0 c rfl rfl rfl ?_;generalize wr.alloc (.cells yl 88)=W1 at HY1 ⊢;have k1:=HY1.out.cell 0 (by omega);have k2:=HY1.out.froz 0)
    generalize hW2:W1.setCell ⟨wr.heap.size,0,none⟩ (.int .u8 128)=W2
    have HB:Hid (MY w W2 s wr.heap.size (fB m j 0)):=by rw [←hW2];exact DY HY1.out (by omega)
    have hr112:0<112:=by omega
    clear hW2 k1 k2 HY HY1 sl0
    have sl2 : ∀ w1:World,(Instr.sliceAt 88 (.pointer (some ⟨wr.heap.size,0,none⟩)) (some (.int .i64 112)) (some (.int .i64 120)) none).run Tryz.prog w1 = .ok (.slice (some ⟨wr.heap.size,112,none⟩) 8 144) w1 :=
     fun w1=>by rw [cF w1 88 5 256 wr.heap.size 0 112 120 112 120 rfl rfl Tryz.underlying88 cq (by omega) (by omega) (by omega),Nat.zero_add]
    have sl3 : ∀ w1:World,(Instr.sliceAt 88 (.pointer (some ⟨wr.heap.size,0,none⟩)) (some (.int .i64 120)) (some (.int .i64 128)) none).run Tryz.prog w1 = .ok (.slice (some ⟨wr.heap.size,120,none⟩) 8 136) w1 :=
     fun w1=>by rw [cF w1 88 5 256 wr.heap.size 0 120 128 120 128 rfl rfl Tryz.underlying88 cq (by omega) (by omega) (by omega),Nat.zero_add]
    have wl:IntKind.i64.wrap 112=112:=by decide
    have wm:IntKind.i64.wrap 120=120:=by decide
    refine (Ku n (by omega) W2).mono ?_
    rintro e w3 ⟨rfl,rfl⟩
    go_wp2_with fail
    have ht1:w3.there wr.heap.size 112 8:=aw HB.out.last 112 8 (by rw [cZ];omega)
    refine (cg wr.heap.size 112 _ (by omega) 0 w3 ht1).mono ?_
    rintro e w4 ⟨rfl,hw4⟩
    have HC4:Hid (MY w w4 s wr.heap.size (fC m j 0 128)):=by rw [←hw4];exact K8 (e:=128) HB.out ⟨by omega,by omega⟩
    clear hw4 ht1 HB
    go_wp2_with fail
    have ht2:w4.there wr.heap.size 120 8:=aw HC4.out.last 120 8 (by rw [cZ];omega)
    refine (cg wr.heap.size 120 _ (by omega) (BitVec.ofNat 64 (8*n)) w4 ht2).mono ?_
    rintro e w5 ⟨rfl,hw5⟩
    have HI5:Hid (MY w w5 s wr.heap.size (fD m n j 0 128)):=by rw [←hw5];exact JG (e:=128) (n:=n) HC4.out ⟨by omega,by omega⟩
    clear hw5 ht2 HC4 HI
    have HI:Hid (MY w w5 s wr.heap.size (fD m n j 0 128)):=HI5.out
    clear HI5
    have HE:Hid (compress aW s (fD m n j 0 128)=S):=by
     rw [HSB.out];exact qV m n j 0 HJ.out hr112 S HS.out
    go_wp2_with fail
    refine RT.wp_rgn' [2,3] (qfn s (.slice (some ⟨wr.heap.size,0,none⟩) 128 256)) qK (qΩ (fun z W=>MY w W z wr.heap.size (fD m n j 0 128)) (s) (S)) (by kernel_rfl) (by kernel_rfl) ?_ ?_ ?_
    ·exact HI.out.drew
    ·refine ⟨?_,?_,?_,?_,trivial⟩
     ·refine RT.ObT.silent rfl (fun a W k0 V hO hf hp hk => ?_)
      have hk0:k0≤0:=hk
      obtain rfl:k0=0:=by omega
      exact RT.ob_op rfl (RT.wanted_none rfl) (wp_load_mid 86 (.tmp 3) rfl (w.heap.size+1) 0 (hf 3 rfl) (s).row.toList _ (qI hO.mx).range Tryz.underlying86 rfl (by rw [fF];exact dQ) ⟨rfl,hO⟩)
     ·refine RT.ObT.pure rfl rfl rfl (fun a V hf hp ev he hc W => ?_)
      have q5:ev (.tmp 5) = .pointer (some ⟨wr.heap.size,0,none⟩):=(he (.tmp 5)).trans (hf 5 rfl)
      simp only [qF,qD,qE,execOp];rw [q5]
      try simp only [hc]
      have:=sl1 W
      first | (go_simp;done) | (go_simp;rfl)
     ·refine RT.ObT.loud (j:=0) rfl (fun a W V hO hf hp => ?_)
      have e1:a.eval (.tmp 48) = .agg (s).row:=hp 0 48 rfl
      have e2:a.eval (.tmp 49) = .slice (some ⟨wr.heap.size,0,none⟩) 128 256:=hp 1 49 rfl
      refine RT.ob_call (g:=59) (args := #[.agg (s).row,.slice (some ⟨wr.heap.size,0,none⟩) 128 256]) rfl (RT.wanted_none rfl) (fun ev he hc => ?_) ((oE (fD m n j 0 128) (s) (S) HE.out wr.heap.size 0 128 256 (by omega) (by omega) W (fun i hi=>by rw [Nat.zero_add];exact hO.cell i (by omega)) (HT.out.below (qI hO.mx).below hl.out).cu).mono ?_)
      ·have h1:=(he (.tmp 48)).trans e1
       have h2:=(he (.tmp 49)).trans e2
       have hfn:=he (.func 59)
       simp only [qF,qD,qE,execOp]
       simp only [resolve,invoke,Sem.run_bind,Sem.run_pure,Result.andThen_ok,List.map_toArray,List.map_cons,List.map_nil,h1,h2,hfn,Act.eval]
       rfl
      ·rintro e W' ⟨rfl,hb⟩
       exact ⟨_,rfl,_,rfl,hO.more hb,rfl⟩
     ·refine RT.ObT.loud (j:=1) rfl (fun a W V hO hf hp => ?_)
      obtain ⟨hO1,hO2⟩:=hO
      have e3:a.eval (.tmp 50) = .agg (S).row:=(hp 2 50 rfl).trans hO2
      exact RT.ob_op rfl (RT.wanted_none rfl) (wp_store_mid 86 (.tmp 3) (.tmp 50) rfl (w.heap.size+1) 0 (S).row (hf 3 rfl) e3 (hO1.mx.there _) (by rw [gN];exact dQ) (St.one _) ⟨_,rfl,hO1.put _⟩)
    ·intro w6 V hO
     have HO:Hid (MY w w6 S wr.heap.size (fD m n j 0 128)):=hO
     clear hO
     simp only [RT.lay,RT.val,RT.at',qfn,Act.put]
     obtain ⟨W6,hW6⟩ : ∃ W6,W6=w6:=⟨_,rfl⟩
     go_wp2_with (refine wpList_load_mid rfl 86 _ rfl (w.heap.size+1) 0 rfl S.row.toList _ HO.out.mx.range Tryz.underlying86 rfl (by rw [fF];exact dQ) ?_)
     refine (gQ S _).mono ?_
     rintro e w7 ⟨rfl,hb7⟩
     have HX:Hid (MX w w7 S):=HO.out.mx.more hb7
     have HT7:Hid (w7.there w.heap.size 0 (dm S).size):=by rw [bp];exact aw HX.out.res 0 64 (by rw [mR];omega)
     clear hb7
     go_wp2_with (refine wpList_store_mid rfl 29 _ _ rfl w.heap.size 0 (dm S) rfl rfl HT7.out (by rw [bp];exact lM) (by exact iP _) ?_)
     refine bodyPost_ret (v := .agg (dm S)) ?_ rfl ⟨rfl,?_⟩
     ·exact aN Tryz.results22 _ _ w.heap.size 0 (dm S).toList _ rfl (World.rangeAt_setCells_same _ _ _ _ HT7.out) Tryz.underlying29 rfl (by rw [Array.length_toList,bp];exact lM)
     ·exact af _ (Nat.le_refl _) _ _ _ HX.out.below
   ·obtain ⟨b,o,rfl,hblt,hcell⟩:=HSR.out (by omega)
    have HS2:Hid (∀ jj v,((List.range r).map fun i=>B (m (128*j+i)))[jj]? = some v→(wr.alloc (.cells yl 88)).cell? ((⟨b,o,none⟩:Addr).add jj)=some v) :=
     AL (n:=r) (fun i hi=>by rw [HY.out.mx.below.cell (p:=⟨b,o+i,none⟩) hblt];exact hcell i hi) r (Nat.le_refl _)
    have HF:Hid (0+((List.range r).map fun i=>B (m (128*j+i))).length≤(jr 256 (fun _=>0)).size):=by
     show 0+((List.range r).map fun i=>B (m (128*j+i))).length≤(jr 256 (fun _=>0)).size
     rw [cZ,List.length_map,List.length_range];omega
    have HLE:Hid (((List.range r).map fun i=>B (m (128*j+i))).length=Nat.min r 256):=by
     show _=min r 256
     simp;omega
    clear hcell
    by_cases hr112:r<112
    ·have g112:decide ((112:Int)≤(r:Int))=false:=by simp;omega
     have g112' : ¬ ((112:Int)≤(r:Int)):=by omega
     go_wp2_with (refine kN rfl _ _ 23 23 rfl 5 Tryz.underlying23 cq wr.heap.size 0 256 256 ⟨b,o,none⟩ r c rfl rfl (jr 256 (fun _=>0)) 88 HY.out.last ((List.range r).map fun i=>B (m (128*j+i))) HLE.out HS2.out HF.out (kV r _) ?_;intro W1 hg1 hz1 hx1;have HY1:Hid (MY w W1 s wr.heap.size (fA m j r)):=CD HY.out (by omega) hg1 hx1;clear hg1 hz1 hx1;have k1:=HY1.out.cell r (by omega);have k2:=HY1.out.froz r;rw [show (((List.range r).map fun i=>B (m (128*j+i))).length:Int)=(r:Int) by simp])
     generalize hW2:W1.setCell ⟨wr.heap.size,r,none⟩ (.int .u8 128)=W2
     have HB:Hid (MY w W2 s wr.heap.size (fB m j r)):=by rw [←hW2];exact DY HY1.out (by omega)
     clear hW2 k1 k2 HY HY1 sl0 HS2 HF HLE
     have sl2 : ∀ w1:World,(Instr.sliceAt 88 (.pointer (some ⟨wr.heap.size,0,none⟩)) (some (.int .i64 112)) (some (.int .i64 120)) none).run Tryz.prog w1 = .ok (.slice (some ⟨wr.heap.size,112,none⟩) 8 144) w1 :=
      fun w1=>by rw [cF w1 88 5 256 wr.heap.size 0 112 120 112 120 rfl rfl Tryz.underlying88 cq (by omega) (by omega) (by omega),Nat.zero_add]
     have sl3 : ∀ w1:World,(Instr.sliceAt 88 (.pointer (some ⟨wr.heap.size,0,none⟩)) (some (.int .i64 120)) (some (.int .i64 128)) none).run Tryz.prog w1 = .ok (.slice (some ⟨wr.heap.size,120,none⟩) 8 136) w1 :=
      fun w1=>by rw [cF w1 88 5 256 wr.heap.size 0 120 128 120 128 rfl rfl Tryz.underlying88 cq (by omega) (by omega) (by omega),Nat.zero_add]
     have wl:IntKind.i64.wrap 112=112:=by decide
     have wm:IntKind.i64.wrap 120=120:=by decide
     refine (Ku n (by omega) W2).mono ?_
     rintro e w3 ⟨rfl,rfl⟩
     go_wp2_with fail
     have ht1:w3.there wr.heap.size 112 8:=aw HB.out.last 112 8 (by rw [cZ];omega)
     refine (cg wr.heap.size 112 _ (by omega) 0 w3 ht1).mono ?_
     rintro e w4 ⟨rfl,hw4⟩
     have HC4:Hid (MY w w4 s wr.heap.size (fC m j r 128)):=by rw [←hw4];exact K8 (e:=128) HB.out ⟨by omega,by omega⟩
     clear hw4 ht1 HB
     go_wp2_with fail
     have ht2:w4.there wr.heap.size 120 8:=aw HC4.out.last 120 8 (by rw [cZ];omega)
     refine (cg wr.heap.size 120 _ (by omega) (BitVec.ofNat 64 (8*n)) w4 ht2).mono ?_
     rintro e w5 ⟨rfl,hw5⟩
     have HI5:Hid (MY w w5 s wr.heap.size (fD m n j r 128)):=by rw [←hw5];exact JG (e:=128) (n:=n) HC4.out ⟨by omega,by omega⟩
     clear hw5 ht2 HC4 HI
     have HI:Hid (MY w w5 s wr.heap.size (fD m n j r 128)):=HI5.out
     clear HI5
     have HE:Hid (compress aW s (fD m n j r 128)=S):=by
      rw [HSB.out];exact qV m n j r HJ.out hr112 S HS.out
     go_wp2_with fail
     refine RT.wp_rgn' [2,3] (qfn s (.slice (some ⟨wr.heap.size,0,none⟩) 128 256)) qK (qΩ (fun z W=>MY w W z wr.heap.size (fD m n j r 128)) (s) (S)) (by kernel_rfl) (by kernel_rfl) ?_ ?_ ?_
     ·exact HI.out.drew
     ·refine ⟨?_,?_,?_,?_,trivial⟩
      ·refine RT.ObT.silent rfl (fun a W k0 V hO hf hp hk => ?_)
       have hk0:k0≤0:=hk
       obtain rfl:k0=0:=by omega
       exact RT.ob_op rfl (RT.wanted_none rfl) (wp_load_mid 86 (.tmp 3) rfl (w.heap.size+1) 0 (hf 3 rfl) (s).row.toList _ (qI hO.mx).range Tryz.underlying86 rfl (by rw [fF];exact dQ) ⟨rfl,hO⟩)
      ·refine RT.ObT.pure rfl rfl rfl (fun a V hf hp ev he hc W => ?_)
       have q5:ev (.tmp 5) = .pointer (some ⟨wr.heap.size,0,none⟩):=(he (.tmp 5)).trans (hf 5 rfl)
       simp only [qF,qD,qE,execOp];rw [q5]
       try simp only [hc]
       have:=sl1 W
       first | (go_simp;done) | (go_simp;rfl)
      ·refine RT.ObT.loud (j:=0) rfl (fun a W V hO hf hp => ?_)
       have e1:a.eval (.tmp 48) = .agg (s).row:=hp 0 48 rfl
       have e2:a.eval (.tmp 49) = .slice (some ⟨wr.heap.size,0,none⟩) 128 256:=hp 1 49 rfl
       refine RT.ob_call (g:=59) (args := #[.agg (s).row,.slice (some ⟨wr.heap.size,0,none⟩) 128 256]) rfl (RT.wanted_none rfl) (fun ev he hc => ?_) ((oE (fD m n j r 128) (s) (S) HE.out wr.heap.size 0 128 256 (by omega) (by omega) W (fun i hi=>by rw [Nat.zero_add];exact hO.cell i (by omega)) (HT.out.below (qI hO.mx).below hl.out).cu).mono ?_)
       ·have h1:=(he (.tmp 48)).trans e1
        have h2:=(he (.tmp 49)).trans e2
        have hfn:=he (.func 59)
        simp only [qF,qD,qE,execOp]
        simp only [resolve,invoke,Sem.run_bind,Sem.run_pure,Result.andThen_ok,List.map_toArray,List.map_cons,List.map_nil,h1,h2,hfn,Act.eval]
        rfl
       ·rintro e W' ⟨rfl,hb⟩
        exact ⟨_,rfl,_,rfl,hO.more hb,rfl⟩
      ·refine RT.ObT.loud (j:=1) rfl (fun a W V hO hf hp => ?_)
       obtain ⟨hO1,hO2⟩:=hO
       have e3:a.eval (.tmp 50) = .agg (S).row:=(hp 2 50 rfl).trans hO2
       exact RT.ob_op rfl (RT.wanted_none rfl) (wp_store_mid 86 (.tmp 3) (.tmp 50) rfl (w.heap.size+1) 0 (S).row (hf 3 rfl) e3 (hO1.mx.there _) (by rw [gN];exact dQ) (St.one _) ⟨_,rfl,hO1.put _⟩)
     ·intro w6 V hO
      have HO:Hid (MY w w6 S wr.heap.size (fD m n j r 128)):=hO
      clear hO
      simp only [RT.lay,RT.val,RT.at',qfn,Act.put]
      obtain ⟨W6,hW6⟩ : ∃ W6,W6=w6:=⟨_,rfl⟩
      go_wp2_with (refine wpList_load_mid rfl 86 _ rfl (w.heap.size+1) 0 rfl S.row.toList _ HO.out.mx.range Tryz.underlying86 rfl (by rw [fF];exact dQ) ?_)
      refine (gQ S _).mono ?_
      rintro e w7 ⟨rfl,hb7⟩
      have HX:Hid (MX w w7 S):=HO.out.mx.more hb7
      have HT7:Hid (w7.there w.heap.size 0 (dm S).size):=by rw [bp];exact aw HX.out.res 0 64 (by rw [mR];omega)
      clear hb7
      go_wp2_with (refine wpList_store_mid rfl 29 _ _ rfl w.heap.size 0 (dm S) rfl rfl HT7.out (by rw [bp];exact lM) (by exact iP _) ?_)
      refine bodyPost_ret (v := .agg (dm S)) ?_ rfl ⟨rfl,?_⟩
      ·exact aN Tryz.results22 _ _ w.heap.size 0 (dm S).toList _ rfl (World.rangeAt_setCells_same _ _ _ _ HT7.out) Tryz.underlying29 rfl (by rw [Array.length_toList,bp];exact lM)
      ·exact af _ (Nat.le_refl _) _ _ _ HX.out.below
    ·have g112:decide ((112:Int)≤(r:Int))=true:=by simp;omega
     have g112':(112:Int)≤(r:Int):=by omega
     go_wp2_with (refine kN rfl _ _ 23 23 rfl 5 Tryz.underlying23 cq wr.heap.size 0 256 256 ⟨b,o,none⟩ r c rfl rfl (jr 256 (fun _=>0)) 88 HY.out.last ((List.range r).map fun i=>B (m (128*j+i))) HLE.out HS2.out HF.out (kV r _) ?_;intro W1 hg1 hz1 hx1;have HY1:Hid (MY w W1 s wr.heap.size (fA m j r)):=CD HY.out (by omega) hg1 hx1;clear hg1 hz1 hx1;have k1:=HY1.out.cell r (by omega);have k2:=HY1.out.froz r;rw [show (((List.range r).map fun i=>B (m (128*j+i))).length:Int)=(r:Int) by simp])
     generalize hW2:W1.setCell ⟨wr.heap.size,r,none⟩ (.int .u8 128)=W2
     have HB:Hid (MY w W2 s wr.heap.size (fB m j r)):=by rw [←hW2];exact DY HY1.out (by omega)
     clear hW2 k1 k2 HY HY1 sl0 HS2 HF HLE
     have sl2 : ∀ w1:World,(Instr.sliceAt 88 (.pointer (some ⟨wr.heap.size,0,none⟩)) (some (.int .i64 240)) (some (.int .i64 248)) none).run Tryz.prog w1 = .ok (.slice (some ⟨wr.heap.size,240,none⟩) 8 16) w1 :=
      fun w1=>by rw [cF w1 88 5 256 wr.heap.size 0 240 248 240 248 rfl rfl Tryz.underlying88 cq (by omega) (by omega) (by omega),Nat.zero_add]
     have sl3 : ∀ w1:World,(Instr.sliceAt 88 (.pointer (some ⟨wr.heap.size,0,none⟩)) (some (.int .i64 248)) (some (.int .i64 256)) none).run Tryz.prog w1 = .ok (.slice (some ⟨wr.heap.size,248,none⟩) 8 8) w1 :=
      fun w1=>by rw [cF w1 88 5 256 wr.heap.size 0 248 256 248 256 rfl rfl Tryz.underlying88 cq (by omega) (by omega) (by omega),Nat.zero_add]
     have sl4 : ∀ w1:World,(Instr.sliceAt 88 (.pointer (some ⟨wr.heap.size,0,none⟩)) (some (.int .i64 128)) none none).run Tryz.prog w1 = .ok (.slice (some ⟨wr.heap.size,128,none⟩) 128 128) w1 :=
      fun w1=>by rw [Ay w1 88 5 256 wr.heap.size 0 128 128 rfl Tryz.underlying88 cq (by omega),Nat.zero_add]
     have wl:IntKind.i64.wrap 240=240:=by decide
     have wm:IntKind.i64.wrap 248=248:=by decide
     refine (Ku n (by omega) W2).mono ?_
     rintro e w3 ⟨rfl,rfl⟩
     go_wp2_with fail
     have ht1:w3.there wr.heap.size 240 8:=aw HB.out.last 240 8 (by rw [cZ];omega)
     refine (cg wr.heap.size 240 _ (by omega) 0 w3 ht1).mono ?_
     rintro e w4 ⟨rfl,hw4⟩
     have HC4:Hid (MY w w4 s wr.heap.size (fC m j r 256)):=by rw [←hw4];exact K8 (e:=256) HB.out ⟨by omega,by omega⟩
     clear hw4 ht1 HB
     go_wp2_with fail
     have ht2:w4.there wr.heap.size 248 8:=aw HC4.out.last 248 8 (by rw [cZ];omega)
     refine (cg wr.heap.size 248 _ (by omega) (BitVec.ofNat 64 (8*n)) w4 ht2).mono ?_
     rintro e w5 ⟨rfl,hw5⟩
     have HI5:Hid (MY w w5 s wr.heap.size (fD m n j r 256)):=by rw [←hw5];exact JG (e:=256) (n:=n) HC4.out ⟨by omega,by omega⟩
     clear hw5 ht2 HC4 HI
     have HI:Hid (MY w w5 s wr.heap.size (fD m n j r 256)):=HI5.out
     clear HI5
     obtain ⟨s1,hs1⟩ : ∃ s1,compress aW s (fD m n j r 256)=s1:=⟨_,rfl⟩
     have HE:Hid (compress aW s (fD m n j r 256)=s1):=hs1
     have HE2:Hid (compress aW s1 (fun i=>fD m n j r 256 (128+i))=S):=by
      rw [←hs1,HSB.out];exact zZ m n j r HJ.out ⟨by omega,by omega⟩ S HS.out
     clear hs1
     go_wp2_with fail
     refine RT.wp_rgn' [2,3] (qfn s (.slice (some ⟨wr.heap.size,0,none⟩) 128 256)) qK (qΩ (fun z W=>MY w W z wr.heap.size (fD m n j r 256)) (s) (s1)) (by kernel_rfl) (by kernel_rfl) ?_ ?_ ?_
     ·exact HI.out.drew
     ·refine ⟨?_,?_,?_,?_,trivial⟩
      ·refine RT.ObT.silent rfl (fun a W k0 V hO hf hp hk => ?_)
       have hk0:k0≤0:=hk
       obtain rfl:k0=0:=by omega
       exact RT.ob_op rfl (RT.wanted_none rfl) (wp_load_mid 86 (.tmp 3) rfl (w.heap.size+1) 0 (hf 3 rfl) (s).row.toList _ (qI hO.mx).range Tryz.underlying86 rfl (by rw [fF];exact dQ) ⟨rfl,hO⟩)
      ·refine RT.ObT.pure rfl rfl rfl (fun a V hf hp ev he hc W => ?_)
       have q5:ev (.tmp 5) = .pointer (some ⟨wr.heap.size,0,none⟩):=(he (.tmp 5)).trans (hf 5 rfl)
       simp only [qF,qD,qE,execOp];rw [q5]
       try simp only [hc]
       have:=sl1 W
       first | (go_simp;done) | (go_simp;rfl)
      ·refine RT.ObT.loud (j:=0) rfl (fun a W V hO hf hp => ?_)
       have e1:a.eval (.tmp 48) = .agg (s).row:=hp 0 48 rfl
       have e2:a.eval (.tmp 49) = .slice (some ⟨wr.heap.size,0,none⟩) 128 256:=hp 1 49 rfl
       refine RT.ob_call (g:=59) (args := #[.agg (s).row,.slice (some ⟨wr.heap.size,0,none⟩) 128 256]) rfl (RT.wanted_none rfl) (fun ev he hc => ?_) ((oE (fD m n j r 256) (s) (s1) HE.out wr.heap.size 0 128 256 (by omega) (by omega) W (fun i hi=>by rw [Nat.zero_add];exact hO.cell i (by omega)) (HT.out.below (qI hO.mx).below hl.out).cu).mono ?_)
       ·have h1:=(he (.tmp 48)).trans e1
        have h2:=(he (.tmp 49)).trans e2
        have hfn:=he (.func 59)
        simp only [qF,qD,qE,execOp]
        simp only [resolve,invoke,Sem.run_bind,Sem.run_pure,Result.andThen_ok,List.map_toArray,List.map_cons,List.map_nil,h1,h2,hfn,Act.eval]
        rfl
       ·rintro e W' ⟨rfl,hb⟩
        exact ⟨_,rfl,_,rfl,hO.more hb,rfl⟩
      ·refine RT.ObT.loud (j:=1) rfl (fun a W V hO hf hp => ?_)
       obtain ⟨hO1,hO2⟩:=hO
       have e3:a.eval (.tmp 50) = .agg (s1).row:=(hp 2 50 rfl).trans hO2
       exact RT.ob_op rfl (RT.wanted_none rfl) (wp_store_mid 86 (.tmp 3) (.tmp 50) rfl (w.heap.size+1) 0 (s1).row (hf 3 rfl) e3 (hO1.mx.there _) (by rw [gN];exact dQ) (St.one _) ⟨_,rfl,hO1.put _⟩)
     ·intro w6 V hO
      have HO:Hid (MY w w6 s1 wr.heap.size (fD m n j r 256)):=hO
      clear hO
      simp only [RT.lay,RT.val,RT.at',qfn,Act.put]
      clear HI
      have HI:Hid (MY w w6 s1 wr.heap.size (fD m n j r 256)):=HO.out
      go_wp2_with fail
      refine RT.wp_rgn' [2,3] (qfn s1 (.slice (some ⟨wr.heap.size,128,none⟩) 128 128)) qK (qΩ (fun z W=>MY w W z wr.heap.size (fD m n j r 256)) (s1) (S)) (by kernel_rfl) (by kernel_rfl) ?_ ?_ ?_
      ·exact HI.out.drew
      ·refine ⟨?_,?_,?_,?_,trivial⟩
       ·refine RT.ObT.silent rfl (fun a W k0 V hO hf hp hk => ?_)
        have hk0:k0≤0:=hk
        obtain rfl:k0=0:=by omega
        exact RT.ob_op rfl (RT.wanted_none rfl) (wp_load_mid 86 (.tmp 3) rfl (w.heap.size+1) 0 (hf 3 rfl) (s1).row.toList _ (qI hO.mx).range Tryz.underlying86 rfl (by rw [fF];exact dQ) ⟨rfl,hO⟩)
       ·refine RT.ObT.pure rfl rfl rfl (fun a V hf hp ev he hc W => ?_)
        have q5:ev (.tmp 5) = .pointer (some ⟨wr.heap.size,0,none⟩):=(he (.tmp 5)).trans (hf 5 rfl)
        simp only [qF,qD,qE,execOp];rw [q5]
        try simp only [hc]
        have:=sl4 W
        first | (go_simp;done) | (go_simp;rfl)
       ·refine RT.ObT.loud (j:=0) rfl (fun a W V hO hf hp => ?_)
        have e1:a.eval (.tmp 53) = .agg (s1).row:=hp 0 53 rfl
        have e2:a.eval (.tmp 54) = .slice (some ⟨wr.heap.size,128,none⟩) 128 128:=hp 1 54 rfl
        refine RT.ob_call (g:=59) (args := #[.agg (s1).row,.slice (some ⟨wr.heap.size,128,none⟩) 128 128]) rfl (RT.wanted_none rfl) (fun ev he hc => ?_) ((oE (fun i=>fD m n j r 256 (128+i)) (s1) (S) HE2.out wr.heap.size 128 128 128 (by omega) (by omega) W (fun i hi=>hO.cell (128+i) (by omega)) (HT.out.below (qI hO.mx).below hl.out).cu).mono ?_)
        ·have h1:=(he (.tmp 53)).trans e1
         have h2:=(he (.tmp 54)).trans e2
         have hfn:=he (.func 59)
         simp only [qF,qD,qE,execOp]
         simp only [resolve,invoke,Sem.run_bind,Sem.run_pure,Result.andThen_ok,List.map_toArray,List.map_cons,List.map_nil,h1,h2,hfn,Act.eval]
         rfl
        ·rintro e W' ⟨rfl,hb⟩
         exact ⟨_,rfl,_,rfl,hO.more hb,rfl⟩
       ·refine RT.ObT.loud (j:=1) rfl (fun a W V hO hf hp => ?_)
        obtain ⟨hO1,hO2⟩:=hO
        have e3:a.eval (.tmp 55) = .agg (S).row:=(hp 2 55 rfl).trans hO2
        exact RT.ob_op rfl (RT.wanted_none rfl) (wp_store_mid 86 (.tmp 3) (.tmp 55) rfl (w.heap.size+1) 0 (S).row (hf 3 rfl) e3 (hO1.mx.there _) (by rw [gN];exact dQ) (St.one _) ⟨_,rfl,hO1.put _⟩)
      ·intro w6 V hO
       have HO:Hid (MY w w6 S wr.heap.size (fD m n j r 256)):=hO
       clear hO
       simp only [RT.lay,RT.val,RT.at',qfn,Act.put]
       obtain ⟨W6,hW6⟩ : ∃ W6,W6=w6:=⟨_,rfl⟩
       go_wp2_with (refine wpList_load_mid rfl 86 _ rfl (w.heap.size+1) 0 rfl S.row.toList _ HO.out.mx.range Tryz.underlying86 rfl (by rw [fF];exact dQ) ?_)
       refine (gQ S _).mono ?_
       rintro e w7 ⟨rfl,hb7⟩
       have HX:Hid (MX w w7 S):=HO.out.mx.more hb7
       have HT7:Hid (w7.there w.heap.size 0 (dm S).size):=by rw [bp];exact aw HX.out.res 0 64 (by rw [mR];omega)
       clear hb7
       go_wp2_with (refine wpList_store_mid rfl 29 _ _ rfl w.heap.size 0 (dm S) rfl rfl HT7.out (by rw [bp];exact lM) (by exact iP _) ?_)
       refine bodyPost_ret (v := .agg (dm S)) ?_ rfl ⟨rfl,?_⟩
       ·exact aN Tryz.results22 _ _ w.heap.size 0 (dm S).toList _ rfl (World.rangeAt_setCells_same _ _ _ _ HT7.out) Tryz.underlying29 rfl (by rw [Array.length_toList,bp];exact lM)
       ·exact af _ (Nat.le_refl _) _ _ _ HX.out.below
end Go.Proofs.YtajehiidpecknaaGreatDoor.Sh.Q5
