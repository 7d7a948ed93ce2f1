import Derived.Test.YtajehiidpecknaaGreatDoorVrL
import Derived.Test.YtajehiidpecknaaGreatDoorVhA
import Derived.Test.YtajehiidpecknaaGreatDoorVkA
set_option linter.all false
namespace Go.Proofs.YtajehiidpecknaaGreatDoor.Wi
open Go Go.RowKit
set_option maxRecDepth 100000
def vX (o:Option (List Int)):Bool:=o.isSome
def ri80f (ek:Int) (C:List Int) (N:Nat):Nat→Value
 | 0 => .int .i64 ek
 | 1 => .bool false
 | 2 => .bool false
 | 3=>undef
 | 4=>undef
 | 5=>undef
 | 6 => .bool false
 | _=>undef
def Jr (ek:Int) (C:List Int) (N:Nat):Nat→Value
 | 0 => .int .i64 0
 | 1 => .bool true
 | 2 => .bool true
 | 3 => .agg (bv C).toArray
 | 4 => .agg (bv (bi 1)).toArray
 | 5 => .bool (!decide (C=bi 1))
 | 6 => .bool (!decide (C=bi 1))
 | _=>undef
def Pm (e8 e7:Nat):Nat→Option Value
 | 0=>some (.slice (some ⟨e8,0,none⟩) 32 32)
 | 1=>some (.slice (some ⟨e7,0,none⟩) 32 64)
 | _=>none
set_option maxHeartbeats 4000000 in
theorem pU (x p:List Int) (hx:L32 x) (hp:Byt p) (hl:p.length≤140737488353000) (v:Value) (w:World) (hv:Sl w v p) :
  Calls Tryz.prog 29 #[.agg (bv x).toArray,v] w fun e w'=>e = .returned (.tuple #[.agg (bv (gU (inq x p))).toArray,.bool (vX (inq x p))])∧Below w.heap.size w w':=by
 have HX:Hid (L32 x):=hx
 have HP:Hid (Byt p):=hp
 have HPL:Hid (p.length≤140737488353000):=hl
 have hz:=bG
 obtain ⟨Z,hZ⟩ : ∃ Z,(bv (List.replicate 32 0)).toArray=Z:=⟨_,rfl⟩
 have hZs:Z.size=32:=by rw [←hZ];simp [bv]
 have HZS:Hid (Z.size=32):=hZs
 rw [hZ] at hz
 have hz6:=dZ
 obtain ⟨Z6,hZ6⟩ : ∃ Z,(bv (List.replicate 64 0)).toArray=Z:=⟨_,rfl⟩
 have hZs6:Z6.size=64:=by rw [←hZ6];simp [bv]
 have HZ6:Hid (Z6.size=64):=hZs6
 rw [hZ6] at hz6
 have HVW:Hid (Sl w v p):=hv
 obtain ⟨R,hR⟩ : ∃ R,inq x p=R:=⟨_,rfl⟩
 have HR:Hid (inp x p 256=R):=hR
 rw [hR]
 have hzr:=bG
 obtain ⟨ZR,hZR⟩ : ∃ Z,(bv (List.replicate 32 0)).toArray=Z:=⟨_,rfl⟩
 have hZRs:ZR.size=32:=by rw [←hZR];simp [bv]
 have HZR:Hid (ZR.size=32):=hZRs
 have HZRE:Hid ((bv (List.replicate 32 0)).toArray=ZR):=hZR
 clear hzr
 obtain rfl:ZR=Z:=hZR.symm.trans hZ
 obtain ⟨A0,hA0⟩ : ∃ A,(bv x).toArray=A:=⟨_,rfl⟩
 rw [hA0]
 obtain ⟨U,hU⟩ : ∃ U,((w.alloc (.cells A0 22)).alloc (.cells ZR 22))=U:=⟨_,rfl⟩
 have sU:U.heap.size=w.heap.size+2:=by rw [←hU];simp
 have bU:Below w.heap.size w U:=by rw [←hU];exact (((Below.refl _ w).alloc (by first | exact Nat.le_refl _ | (simp only [World.size_alloc];omega)) _).alloc (by first | exact Nat.le_refl _ | (simp only [World.size_alloc];omega)) _)
 have r0:U.rangeAt (w.heap.size) 0 (bv x):=fun j v hj=>by rw [Nat.zero_add,cell_of_row U _ j _ _ _ (show U.heap[w.heap.size]? = some (.cells A0 22 (0,0)) by rw [←hU];exact aV [.cells A0 22 (0,0),.cells ZR 22 (0,0)] w.heap 0 _ rfl),←hA0,List.getElem?_toArray];exact hj
 have thr:U.there (w.heap.size+1) 0 32:=aO (show U.heap[w.heap.size+1]? = some (.cells ZR 22 (0,0)) by rw [←hU];exact aV [.cells A0 22 (0,0),.cells ZR 22 (0,0)] w.heap 1 _ rfl) 0 32 (by omega)
 have BU:Hid (Below w.heap.size w U):=bU
 obtain ⟨D,hD⟩ : ∃ D,w.heap.size=D:=⟨_,rfl⟩
 have HD:Hid (w.heap.size=D):=hD
 rw [hD] at sU thr r0
 have SU:Hid (U.heap.size=D+2):=sU
 have THR:Hid (U.there (D+1) 0 32):=thr
 have LTR:Hid (D+1<U.heap.size):=by show _<_;omega
 have RX:Hid (U.rangeAt (D) 0 (bv x)):=r0
 have LX:Hid (D<U.heap.size):=by show _<_;omega
 clear sU bU thr hZR hZRs r0 hA0
 have HVU:Hid (Sl U v p):=hv.below BU.out (Nat.le_refl _)
 have HLN:Hid (∀ c,(joA (tx x p c)).length=36+p.length):=fun c=>De hx c
 obtain ⟨a0,c0,hv0,-,-⟩:=id HVU.out
 obtain ⟨n0,hn0⟩ : ∃ n,p.length=n:=⟨_,rfl⟩
 have HNP:Hid (p.length=n0):=hn0
 rw [hn0] at hv0
 subst hv0
 clear hx hp hv hl hZs hn0 hR hZ6 hZs6
 try clear hZ
 go_enter Tryz.func29,Tryz.ntmps29
 go_upto_region 1 with (fail)
 try rw [hU]
 try rw [hD]
 clear hU hD
 go_wp2_with fail
 go_loopw [11] (fun i wr => ∃ k:Nat,k≤256∧i = .int .i64 (k:Int)∧Below U.heap.size U wr ∧ ∃ n,k+n=256∧inp x p n=R) (fun i _=>256 - (intOf i).toNat)
 case atStart=>exact ⟨0,by omega,rfl,Below.refl _ _,256,rfl,HR.out⟩
 case round =>
  obtain ⟨k,hk,rfl,hb,n,hn,hi⟩:=hrel
  have HNK:Hid (k+n=256):=hn
  have HB:Hid (Below U.heap.size U wr):=hb
  have HI:Hid (inp x p n=R):=hi
  clear hb hi hn HR
  by_cases hlt:k<256
  ·obtain ⟨J,hJ⟩ : ∃ J,joA (tx x p (k:Int))=J:=⟨_,rfl⟩
   have HJE:Hid (joA (tx x p (k:Int))=J):=hJ
   have HJB:Hid (Byt J):=by rw [←hJ];exact iG (Ev HX.out HP.out _ (by omega) (by omega)) _
   have HJL:Hid (J.length≤140737488354000):=by rw [←hJ,HLN.out];have:=HPL.out;show _≤_;omega
   obtain ⟨G,hG⟩ : ∃ G,h5 J=G:=⟨_,rfl⟩
   have HGH:Hid (h5 J=G):=hG
   have HGL:Hid (G.length=64∧Byt G):=by rw [←hG];exact ⟨bq _,dS _⟩
   obtain ⟨b,hbt⟩ : ∃ b,G.take 32=b:=⟨_,rfl⟩
   have htb:tb x p (k:Int)=b:=by unfold tb;rw [hJ,hG,hbt]
   have HBT:Hid (G.take 32=b):=hbt
   have HBL:Hid (L32 b):=by rw [←htb];exact L32.tb _ _ _
   obtain ⟨ek,hek⟩ : ∃ z,rk b=z:=⟨_,rfl⟩
   obtain ⟨C,hC⟩ : ∃ z,Cl b=z:=⟨_,rfl⟩
   have HCL:Hid (∀ W,Calls Tryz.prog 38 #[.agg (bv b).toArray] W fun e w'=>e = .returned (.tuple #[.agg (bv C).toArray,.int .i64 ek])∧Below W.heap.size W w'):=fun W=>by rw [←hek,←hC];exact qw HBL.out W
   have HC:Hid (L32 C):=by rw [←hC];exact L32.cl _
   have HTG:Hid (∀ m,k+(m+1)=256→inp x p (m+1)=if (ek=0 ∧ ¬ C=bi 1) then some C else inp x p m):=fun m hm=>by
    rw [oc x p hm,tg,htb,hek,hC]
    by_cases q:ek=0 ∧ ¬ C=bi 1
    ·rw [if_pos q,if_pos (decide_eq_true q)]
    ·rw [if_neg q,if_neg (by rw [decide_eq_false q];decide)]
   have HN4:Hid ((tx x p (k:Int)).length≤1000):=by show 4≤1000;omega
   have S3:Hid (Sl wr (.slice (some ⟨D,0,none⟩) 32 32) x):=(bo HX.out RX.out LX.out).below HB.out (Nat.le_refl _)
   obtain ⟨U1,hU1⟩ : ∃ W,wr.alloc (.cells #[.int .u8 3,.int .u8 1] 5)=W:=⟨_,rfl⟩
   have bu1:Below wr.heap.size wr U1:=by rw [←hU1];exact (Below.refl _ wr).alloc (Nat.le_refl _) _
   have sl1:Sl U1 (.slice (some ⟨wr.heap.size,0,none⟩) 2 2) [3,1]:=by rw [←hU1];exact eK wr [3,1] _ 2 rfl
   obtain ⟨U2,hU2⟩ : ∃ W,U1.alloc (.cells #[.int .u8 (k:Int),.int .u8 0] 5)=W:=⟨_,rfl⟩
   have bu2:Below U1.heap.size U1 U2:=by rw [←hU2];exact (Below.refl _ U1).alloc (Nat.le_refl _) _
   have sl2:Sl U2 (.slice (some ⟨U1.heap.size,0,none⟩) 2 2) [(k:Int),0]:=by rw [←hU2];exact eK U1 [(k:Int),0] _ 2 rfl
   have BU2:Hid (Below wr.heap.size wr U2):=Below.tr' bu1 bu2
   obtain ⟨f1,hf1⟩ : ∃ n,wr.heap.size=n:=⟨_,rfl⟩
   obtain ⟨f2,hf2⟩ : ∃ n,U1.heap.size=n:=⟨_,rfl⟩
   have HLL:Hid (LL (U2.alloc (.cells #[.slice (some ⟨f1,0,none⟩) 2 2,.slice (some ⟨D,0,none⟩) 32 32,.slice a0 n0 c0,.slice (some ⟨f2,0,none⟩) 2 2] 23)) (.slice (some ⟨U2.heap.size,0,none⟩) 4 4) (tx x p (k:Int))):=by
    refine lW [.slice (some ⟨f1,0,none⟩) 2 2,.slice (some ⟨D,0,none⟩) 32 32,.slice a0 n0 c0,.slice (some ⟨f2,0,none⟩) 2 2] _ _ 4 rfl rfl (fun i u hu => ?_)
    match i,hu with
    | 0,hu=>cases hu;rw [←hf1];exact sl1.below bu2 (Nat.le_refl _)
    | 1,hu=>cases hu;exact S3.out.below BU2.out (Nat.le_refl _)
    | 2,hu=>cases hu;exact HVU.out.below (Below.tr' HB.out BU2.out) (Nat.le_refl _)
    | 3,hu=>cases hu;rw [←hf2];exact sl2
    | n+4,hu=>simp at hu
   have BLL:Hid (Below wr.heap.size wr (U2.alloc (.cells #[.slice (some ⟨f1,0,none⟩) 2 2,.slice (some ⟨D,0,none⟩) 32 32,.slice a0 n0 c0,.slice (some ⟨f2,0,none⟩) 2 2] 23))):=BU2.out.alloc BU2.out.size _
   clear sl1 sl2 bu1 bu2 hJ hG hbt htb hek hC
   go_upto_region 5 with (first
    | (go_at_call 41;refine (iY (tx x p (k:Int)) J HJE.out _ _ HLL.out (Nat.le_trans HJL.out (by decide)) HN4.out).mono ?_;rintro e W1 ⟨v1,rfl,g1,g2⟩;have B1:Hid (Below U.heap.size U W1):=Below.tr' HB.out (Below.tr' BLL.out g2);have S1:Hid (Sq W1 v1 J):=g1.sq;clear g1 g2)
    | (go_at_call 40;refine (fh J G _ HGH.out HJL.out W1 HJB.out S1.out).mono ?_;rintro e W2 ⟨rfl,g1⟩;have B2:Hid (Below U.heap.size U W2):=Below.tr' B1.out g1;clear g1)
    | (refine wpList_store_mid rfl 29 (.tmp 7) (.tmp 22) rfl W2.heap.size 0 (bv G).toArray rfl rfl (bK W2 (HGL.out.1) HZ6.out) (aC (HGL.out.1) aR) (ar _) ?_;simp only [YN]))
   obtain ⟨e7,he7⟩ : ∃ n,W2.heap.size=n:=⟨_,rfl⟩
   obtain ⟨W4,hW4⟩ : ∃ W,(W2.alloc (.cells Z6 29)).setCells W2.heap.size 0 (bv G)=W:=⟨_,rfl⟩
   obtain ⟨l1,l2,l3⟩:=aS (by rw [ae,HGL.out.1,HZ6.out]) (by rw [ae,HGL.out.1];omega) hW4
   have BW4:Hid (Below W2.heap.size W2 W4):=l2
   have R7:Hid (W4.rangeAt e7 0 (bv G)):=by rw [←he7];exact l1
   have L7:Hid (e7<W4.heap.size):=by rw [←he7];exact l3
   try rw [hW4]
   try rw [he7]
   clear l1 l2 l3 hW4 he7
   have BU4:Hid (Below U.heap.size U W4):=Below.tr' B2.out BW4.out
   clear HLL BLL S3 B1 S1 B2 BW4
   try clear hU1 hU2 hf1 hf2 BU2
   go_upto_region 6 with (fail)
   obtain ⟨e8,he8⟩ : ∃ n,W4.heap.size=n:=⟨_,rfl⟩
   obtain ⟨W6,hW6⟩ : ∃ W,W4.alloc (.cells ZR 22)=W:=⟨_,rfl⟩
   have BW6:Hid (Below W4.heap.size W4 W6):=by rw [←hW6];exact (Below.refl _ W4).alloc (Nat.le_refl _) _
   have TH8:Hid (W6.there e8 0 32):=by rw [←hW6,←he8];exact bM W4 HZS.out.symm
   have L8:Hid (e8<W6.heap.size):=by show _<_;rw [←hW6,←he8];simp
   have R7b:Hid (W6.rangeAt e7 0 (bv b)):=aa (by have:=dN (n:=32) R7.out;rw [HBT.out] at this;exact this) BW6.out L7.out
   have L7b:Hid (e7<W6.heap.size):=YI L7.out BW6.out.size
   have G8:Hid (U.heap.size≤e8):=by show _≤_;rw [←he8];exact BU4.out.size
   have BU6:Hid (Below U.heap.size U W6):=Below.tr' BU4.out BW6.out
   try rw [hW6]
   try rw [he8]
   clear hW6 he8 R7 L7 BU4 BW6
   refine RG.wp_rgn' (GL W6 (Pm e8 e7) (fun _ _ _=>True) [] 2 (e8) (0) (bv b)) (by kernel_rfl) (by kernel_rfl) GL.start ?_ ?_
   ·refine ⟨?_,?_,?_,trivial⟩
    ·refine GL.ob rfl ?_
     intro a W d V hI hd hpx hbk hf hp
     refine RU.ob_val (v := .slice (some ⟨e8,0,none⟩) 32 32) rfl (RU.wanted_none rfl) (fun ev he hc => ?_) ⟨_,rfl,hI.step (fun _ _ _ _ _ _=>trivial) (Below.refl _ _) 0 _ (by simp) (fun u hu=>by first | (cases hu;rfl) | cases hu) trivial⟩
     have q8:ev (.tmp 8) = .pointer (some ⟨e8,0,none⟩):=(he (.tmp 8)).trans (hf 8 rfl)
     simp only [qF,qD,qE,execOp,YO,YP];rw [q8]
     try simp only [hc]
     first | (go_simp;done) | (go_simp;rfl) | rfl
    ·refine GL.ob rfl ?_
     intro a W d V hI hd hpx hbk hf hp
     refine RU.ob_val (v := .slice (some ⟨e7,0,none⟩) 32 64) rfl (RU.wanted_none rfl) (fun ev he hc => ?_) ⟨_,rfl,hI.step (fun _ _ _ _ _ _=>trivial) (Below.refl _ _) 1 _ (by simp) (fun u hu=>by first | (cases hu;rfl) | cases hu) trivial⟩
     have q7:ev (.tmp 7) = .pointer (some ⟨e7,0,none⟩):=(he (.tmp 7)).trans (hf 7 rfl)
     simp only [qF,qD,qE,execOp,YO,YP];rw [q7]
     try simp only [hc]
     first | (go_simp;done) | (go_simp;rfl) | rfl
    ·refine GL.obs (fun a W d V hI hd hpx hbk hf hp => ?_)
     have hO':Below W6.heap.size W6 W:=hI.be
     have q1:a.eval (.tmp 23) = .slice (some ⟨e8,0,none⟩) 32 32:=(hp 0 23 rfl).trans (hI.kn 0 _ rfl (hpx 0 rfl))
     have q2:a.eval (.tmp 24) = .slice (some ⟨e7,0,none⟩) 32 64:=(hp 1 24 rfl).trans (hI.kn 1 _ rfl (hpx 1 rfl))
     have hth:W.there (e8) (0) (bv b).length:=by rw [ae,HBL.out.len];exact an TH8.out hO' L8.out
     have hrun:=run_copy_cells (P:=Tryz.prog) W 23 23 3 5 (e8) (0) 32 32 ⟨e7,0,none⟩ 32 64 (bv b) Tryz.underlying23 eh (by rw [ae,HBL.out.len];rfl) (fun j u hu=>by rw [dO];exact (aa R7b.out hO' L7b.out) j u hu) (fun j hj=>(hth j hj).1) (fun j hj=>(hth j hj).2) (ia _)
     refine RU.ob_run (v:=goInt (bv b).length) (w':=W.setCells (e8) (0) (bv b)) rfl (RU.wanted_none rfl) (fun ev he hc => ?_) ⟨_,rfl,GL.stored hI rfl _⟩
     have e1:=(he (.tmp 23)).trans q1
     have e2:=(he (.tmp 24)).trans q2
     simp only [qF,qD,qE,execOp,resolve,invoke,builtin,Sem.run_bind,Sem.run_pure,Result.andThen_ok,List.map_toArray,List.map_cons,List.map_nil,e1,e2,hrun]
   intro W7x dW7 VW7 hal hG
   obtain ⟨hK,W7,W7y,hyW7⟩:=hG.fin (hal 2 (by decide))
   subst hyW7
   have BW7:Hid (Below W6.heap.size W6 W7):=W7y
   have hs0:VW7 0 = .slice (some ⟨e8,0,none⟩) 32 32:=hK 0 _ rfl (hal 0 (by decide))
   have hs1:VW7 1 = .slice (some ⟨e7,0,none⟩) 32 64:=hK 1 _ rfl (hal 1 (by decide))
   obtain ⟨u2W7,hs2⟩ : ∃ u,VW7 2=u:=⟨_,rfl⟩
   simp only [RU.lay,Act.put,hs0,hs1,hs2]
   simp only [qA,qB,qC]
   clear hG hK hal W7y hs0 hs1 hs2
   obtain ⟨W8,hW8⟩ : ∃ Y,W7.setCells e8 0 (bv b)=Y:=⟨_,rfl⟩
   have s8:W8.heap.size=W7.heap.size:=by rw [←hW8];exact bR _ _ _ _
   have R8:Hid (W8.rangeAt e8 0 (bv b)):=by rw [←hW8];exact World.rangeAt_setCells_same _ _ _ _ (by rw [ae,HBL.out.len];exact an TH8.out BW7.out L8.out)
   have L8b:Hid (e8<W8.heap.size):=by show _<_;rw [s8];exact YI L8.out BW7.out.size
   have BU8:Hid (Below U.heap.size U W8):=by rw [←hW8];exact af G8.out _ _ (Below.tr' BU6.out BW7.out)
   rw [hW8]
   clear hW8 s8 BU6 BW7 R7b L7b TH8 L8
   go_upto_region 8 with (first
    | (refine wpList_load_mid rfl 22 (.tmp 8) rfl (e8) 0 rfl (bv b) _ R8.out Tryz.underlying22 rfl (by rw [ae,HBL.out.len];exact aF) ?_)
    | (go_at_call 38;refine (HCL.out W8).mono ?_;rintro e W9 ⟨rfl,g1⟩;have BW9:Hid (Below W8.heap.size W8 W9):=g1;clear g1)
    | (refine wpList_store_mid rfl 22 (.tmp 9) (.tmp 29) rfl W9.heap.size 0 (bv C).toArray rfl rfl (bK W9 (HC.out.len) HZS.out) (aC (HC.out.len) aF) (ar _) ?_;simp only [YN]))
   obtain ⟨N,hN⟩ : ∃ n,W9.heap.size=n:=⟨_,rfl⟩
   obtain ⟨w3,hw3⟩ : ∃ W,(W9.alloc (.cells ZR 22)).setCells W9.heap.size 0 (bv C)=W:=⟨_,rfl⟩
   obtain ⟨l1,l2,l3⟩:=aS (by rw [ae,HC.out.len,HZS.out]) (by rw [ae,HC.out.len];omega) hw3
   have Bw3:Hid (Below W9.heap.size W9 w3):=l2
   have R9:Hid (w3.rangeAt N 0 (bv C)):=by rw [←hN];exact l1
   have L9:Hid (N<w3.heap.size):=by rw [←hN];exact l3
   try rw [hw3]
   try rw [hN]
   clear l1 l2 l3 hw3 hN
   have BU3:Hid (Below U.heap.size U w3):=Below.tr' (Below.tr' BU8.out BW9.out) Bw3.out
   clear R8 L8b BW9 Bw3 BU8
   by_cases h0:ek=0
   ·subst h0
    refine RU.wp_rgn' [] (Jr 0 C N) (fun _=>0) (gΩ w3) (by kernel_rfl) (by kernel_rfl) (show Below w3.heap.size w3 _ from (Below.refl _ _).drew) ?_ ?_
    ·refine ⟨?_,?_,?_,?_,?_,?_,?_,trivial⟩
     ·refine RU.ObT.pure rfl rfl rfl (fun a V hf hp ev he hc W => ?_)
      have q10:ev (.tmp 10) = .int .i64 0:=(he (.tmp 10)).trans (hf 10 rfl)
      simp only [qF,qD,qE,execOp,YO,YP];rw [q10]
      first | (go_simp;done) | (go_simp;rfl) | rfl
     ·refine RU.ObT.pure rfl rfl rfl (fun a V hf hp ev he hc W => ?_)
      have q31:ev (.tmp 31) = .int .i64 0:=(he (.tmp 31)).trans (hp 0 31 rfl)
      simp only [qF,qD,qE,execOp,YO,YP];rw [q31]
      try simp only [hc]
      first | (go_simp;done) | (go_simp;rfl) | rfl
     ·refine RU.ObT.pure rfl rfl rfl (fun a V hf hp ev he hc W => ?_)
      have q32:ev (.tmp 32) = .bool true:=(he (.tmp 32)).trans (hp 1 32 rfl)
      simp only [qF,qD,qE,execOp,YO,YP];rw [q32]
      first | (go_simp;done) | (go_simp;rfl) | rfl
     ·refine RU.ObT.silent rfl (fun a W k0 V hO hf hp hk => ?_)
      have hg:a.eval (.tmp 33) = .bool true:=hp 2 33 rfl
      have hO':Below w3.heap.size w3 W:=hO
      have q9:a.eval (.tmp 9) = .pointer (some ⟨N,0,none⟩):=hf 9 rfl
      exact RU.ob_op rfl (RU.wanted_some rfl rfl rfl hg) (wp_load_mid 22 (.tmp 9) rfl (N) (0) q9 (bv C) _ (aa R9.out hO' L9.out) Tryz.underlying22 rfl (aD HC.out) ⟨rfl,hO⟩)
     ·refine RU.ObT.silent rfl (fun a W k0 V hO hf hp hk => ?_)
      have hg:a.eval (.tmp 33) = .bool true:=hp 2 33 rfl
      have hO':Below w3.heap.size w3 W:=hO
      refine RU.ob_call (g:=65) (args := #[]) rfl (RU.wanted_some rfl rfl rfl hg) (fun ev he hc => ?_) ((H8 W).mono ?_)
      ·have hfn:=he (.func 65)
       simp only [qF,qD,qE,execOp,YO,YP]
       simp only [resolve,invoke,Sem.run_bind,Sem.run_pure,Result.andThen_ok,List.map_toArray,List.map_cons,List.map_nil,hfn,Act.eval,hc]
       rfl
      ·rintro e' W2 ⟨rfl,hb2⟩
       exact ⟨_,rfl,rfl,(hO'.trans (hb2.mono hO'.size):Below w3.heap.size w3 W2)⟩
     ·refine RU.ObT.silent rfl (fun a W k0 V hO hf hp hk => ?_)
      have hg:a.eval (.tmp 33) = .bool true:=hp 2 33 rfl
      refine RU.ob_val rfl (RU.wanted_some rfl rfl rfl hg) (fun ev he hc => ?_) ⟨rfl,hO⟩
      have q34:ev (.tmp 34) = .agg (bv C).toArray:=(he (.tmp 34)).trans (hp 3 34 rfl)
      have q35:ev (.tmp 35) = .agg (bv (bi 1)).toArray:=(he (.tmp 35)).trans (hp 4 35 rfl)
      simp only [qF,qD,qE,execOp,YO,YP];rw [q34,q35]
      simp only [Sem.run_bind,xC,yf HC.out L32.one,Result.andThen_ok,Sem.run_pure];rfl
     ·refine RU.ObT.pure rfl rfl rfl (fun a V hf hp ev he hc W => ?_)
      have q33:ev (.tmp 33) = .bool true:=(he (.tmp 33)).trans (hp 2 33 rfl)
      have q36:ev (.tmp 36) = .bool (!decide (C=bi 1)):=(he (.tmp 36)).trans (hp 5 36 rfl)
      simp only [qF,qD,qE,execOp,YO,YP];rw [q33,q36]
      try simp only [hc]
      first | (go_simp;done) | (go_simp;rfl) | rfl
    intro w4 Vw4 hOw4
    have Bw4:Hid (Below w3.heap.size w3 w4):=hOw4
    clear hOw4
    simp only [RU.lay,RU.val,RU.at',Jr,Act.put]
    simp only [qA,qB,qC]
    have BU5:Hid (Below U.heap.size U w4):=Below.tr' BU3.out Bw4.out
    have hn0:=HNK.out
    obtain ⟨m,rfl⟩ : ∃ m,n=m+1:=⟨n - 1,by omega⟩
    have hI:=HI.out
    by_cases hq:C=bi 1
    ·rw [decide_eq_true hq]
     rw [HTG.out m hn0,if_neg (fun h=>h.2 hq)] at hI
     have HI2:Hid (inp x p m=R):=hI
     have HN3:Hid (k+1+m=256):=by show _=_;omega
     clear hq hn0 hI HI HTG HNK
     go_wp2_with fail
     exact ⟨⟨k+1,by omega,by go_num,BU5.out,m,HN3.out,HI2.out⟩,by simp [intOf];omega⟩
    ·rw [decide_eq_false hq]
     rw [HTG.out m hn0,if_pos ⟨rfl,hq⟩] at hI
     have HI2:Hid (R=some C):=hI.symm
     have R9d:Hid (w4.rangeAt N 0 (bv C)):=aa R9.out Bw4.out L9.out
     have THd:=an THR.out BU5.out LTR.out
     clear hq hn0 hI HI HTG HNK
     go_wp2_with (first
      | (refine wpList_load_mid rfl 22 (.tmp 9) rfl (N) 0 rfl (bv C) _ R9d.out Tryz.underlying22 rfl (by rw [ae,HC.out.len];exact aF) ?_)
      | (refine wpList_store_mid rfl 22 (.tmp 4) (.tmp 38) rfl (D+1) 0 (bv C).toArray rfl rfl (aK (HC.out.len) (THd)) (aC (HC.out.len) aF) (ar _) ?_;simp only [YN]))
     have qq:(w4.setCells (D+1) 0 (bv C)).rangeAt (D+1) 0 (bv C):=World.rangeAt_setCells_same _ _ _ _ (by rw [ae,HC.out.len];exact THd)
     have hbl:Below w.heap.size w (w4.setCells (D+1) 0 (bv C)):=af (by rw [HD.out];omega) _ _ (BU.out.trans (BU5.out.mono BU.out.size))
     try simp only [Exit.inBlock,Exit.then]
     refine bodyPost_ret (v := .tuple #[.agg (bv C).toArray,.bool true]) ?_ rfl ⟨by rw [HI2.out];rfl,hbl⟩
     exact au Tryz.results29 _ _ (D+1) 0 (bv C) _ _ rfl rfl qq Tryz.underlying22 rfl (by rw [ae,HC.out.len];exact aF)
   ·refine RU.wp_rgn' [] (ri80f ek C N) (fun _=>0) (gΩ w3) (by kernel_rfl) (by kernel_rfl) (show Below w3.heap.size w3 _ from (Below.refl _ _).drew) ?_ ?_
    ·refine ⟨?_,?_,?_,?_,?_,?_,?_,trivial⟩
     ·refine RU.ObT.pure rfl rfl rfl (fun a V hf hp ev he hc W => ?_)
      have q10:ev (.tmp 10) = .int .i64 ek:=(he (.tmp 10)).trans (hf 10 rfl)
      simp only [qF,qD,qE,execOp,YO,YP];rw [q10]
      first | (go_simp;done) | (go_simp;rfl) | rfl
     ·refine RU.ObT.pure rfl rfl rfl (fun a V hf hp ev he hc W => ?_)
      have q31:ev (.tmp 31) = .int .i64 ek:=(he (.tmp 31)).trans (hp 0 31 rfl)
      simp only [qF,qD,qE,execOp,YO,YP];rw [q31]
      try simp only [hc]
      go_simp;rw [show (ek == 0)=false from beq_eq_false_iff_ne.2 h0];rfl
     ·refine RU.ObT.pure rfl rfl rfl (fun a V hf hp ev he hc W => ?_)
      have q32:ev (.tmp 32) = .bool false:=(he (.tmp 32)).trans (hp 1 32 rfl)
      simp only [qF,qD,qE,execOp,YO,YP];rw [q32]
      first | (go_simp;done) | (go_simp;rfl) | rfl
     ·exact RU.ObT.skip (g:=2) (d:=33) rfl rfl rfl rfl rfl rfl (fun U h=>by cases h) rfl
     ·exact RU.ObT.skip (g:=2) (d:=33) rfl rfl rfl rfl rfl rfl (fun U h=>by cases h) rfl
     ·exact RU.ObT.skip (g:=2) (d:=33) rfl rfl rfl rfl rfl rfl (fun U h=>by cases h) rfl
     ·refine RU.ObT.pure rfl rfl rfl (fun a V hf hp ev he hc W => ?_)
      have q33:ev (.tmp 33) = .bool false:=(he (.tmp 33)).trans (hp 2 33 rfl)
      have q36:ev (.tmp 36)=undef:=(he (.tmp 36)).trans (hp 5 36 rfl)
      simp only [qF,qD,qE,execOp,YO,YP];rw [q33,q36]
      try simp only [hc]
      first | (go_simp;done) | (go_simp;rfl) | rfl
    intro w4 Vw4 hOw4
    have Bw4:Hid (Below w3.heap.size w3 w4):=hOw4
    clear hOw4
    simp only [RU.lay,RU.val,RU.at',ri80f,Act.put]
    simp only [qA,qB,qC]
    have BU5:Hid (Below U.heap.size U w4):=Below.tr' BU3.out Bw4.out
    have hn0:=HNK.out
    obtain ⟨m,rfl⟩ : ∃ m,n=m+1:=⟨n - 1,by omega⟩
    have hI:=HI.out
    rw [HTG.out m hn0,if_neg (fun h=>h0 h.1)] at hI
    have HI2:Hid (inp x p m=R):=hI
    have HN3:Hid (k+1+m=256):=by show _=_;omega
    clear h0 hn0 hI HI HTG HNK
    go_wp2_with fail
    exact ⟨⟨k+1,by omega,by go_num,BU5.out,m,HN3.out,HI2.out⟩,by simp [intOf];omega⟩
  ·obtain rfl:k=256:=by omega
   have HI2:Hid (R=none):=by
    have h1:=HNK.out
    obtain rfl:n=0:=by omega
    exact HI.out.symm
   have HBZ:Hid (∀ W:World,(Instr.build 22 #[]).run Tryz.prog W = .ok (.agg (bv z32).toArray) W):=vg
   have THd:=an THR.out HB.out LTR.out
   obtain ⟨E0,hE0⟩ : ∃ z,z32=z:=⟨_,rfl⟩
   have HE:Hid (L32 E0):=by rw [←hE0];exact cr
   have HEE:Hid (z32=E0):=hE0
   rw [hE0] at HBZ
   clear HI HNK hlt hk hE0
   go_wp2_with (first
    | (refine bm 22 rfl rfl _ (HBZ.out _) ?_)
    | (refine wpList_store_mid rfl 22 (.tmp 4) (.tmp 40) rfl (D+1) 0 (bv E0).toArray rfl rfl (aK (HE.out.len) (THd)) (aC (HE.out.len) aF) (ar _) ?_;simp only [YN]))
   have qq:(wr.setCells (D+1) 0 (bv E0)).rangeAt (D+1) 0 (bv E0):=World.rangeAt_setCells_same _ _ _ _ (by rw [ae,HE.out.len];exact THd)
   have hbl:Below w.heap.size w (wr.setCells (D+1) 0 (bv E0)):=af (by rw [HD.out];omega) _ _ (BU.out.trans (HB.out.mono BU.out.size))
   try simp only [Exit.inBlock,Exit.then]
   refine bodyPost_ret (v := .tuple #[.agg (bv E0).toArray,.bool false]) ?_ rfl ⟨by rw [HI2.out,←HEE.out];rfl,hbl⟩
   exact au Tryz.results29 _ _ (D+1) 0 (bv E0) _ _ rfl rfl qq Tryz.underlying22 rfl (by rw [ae,HE.out.len];exact aF)
end Go.Proofs.YtajehiidpecknaaGreatDoor.Wi
namespace Go.Proofs.YtajehiidpecknaaGreatDoor.Wi
open Go Go.RowKit
set_option maxRecDepth 100000
structure Res (w U:World) (Z:Array Value):Prop where
 below:Below w.heap.size w U
 size:U.heap.size=w.heap.size+1
 row:U.heap[w.heap.size]? = some (.cells Z 22 (0,0))
 len:Z.size=32
theorem Res.there {w U:World} {Z:Array Value} (h:Res w U Z) {W:World} (hb:Below U.heap.size U W):W.there w.heap.size 0 32 :=
 aO ((hb.block _ (by rw [h.size];omega)).trans h.row) 0 32 (by rw [h.len];exact Nat.le_refl _)
theorem Md (w:World) : ∃ Z,(∀ W:World,(zeroValue 22).run Tryz.prog W = .ok (.agg Z) W)∧Res w (w.alloc (.cells Z 22)) Z :=
 ⟨_,bG,(Below.refl _ w).alloc (Nat.le_refl _) _,by simp,by show (w.heap.push _)[w.heap.size]? = _;simp,by simp [bv]⟩
def hd (xss:List (List Int)):List Int:=rd (h5 (joA xss))
theorem L32.hd (xss:List (List Int)):L32 (hd xss):=dq _
set_option maxHeartbeats 2000000 in
theorem vQ (xss:List (List Int)) (H:List Int) (hH:hd xss=H) (hb : ∀ m ∈ xss,Byt m) (hn:xss.length≤1000) (hl:(joA xss).length≤140737488354000) (v:Value) (w:World) (hv:LL w v xss) :
  Calls Tryz.prog 31 #[v] w fun e w'=>e = .returned (.agg (bv H).toArray)∧Below w.heap.size w w':=by
 obtain ⟨Z,hz,rs⟩:=Md w
 have HL:Hid (L32 H):=by rw [←hH];exact L32.hd _
 obtain ⟨J,hJ⟩ : ∃ J,joA xss=J:=⟨_,rfl⟩
 obtain ⟨G,hG⟩ : ∃ G,h5 J=G:=⟨_,rfl⟩
 have HJB:Hid (Byt J):=by rw [←hJ];exact iG hb _
 have HGL:Hid (G.length=64∧Byt G):=by rw [←hG];exact ⟨bq _,dS _⟩
 have HRD:Hid (rd G=H):=by show rd G=H;rw [←hH,hd,hJ,hG]
 have HJL:Hid (J.length≤140737488354000):=by show _≤_;rw [←hJ];exact hl
 have HGH:Hid (h5 J=G):=hG
 obtain ⟨U,hU⟩ : ∃ U,w.alloc (.cells Z 22)=U:=⟨_,rfl⟩
 rw [hU] at rs
 have RS:Hid (Res w U Z):=rs
 have HC:Hid (Calls Tryz.prog 41 #[v] U fun e w' => ∃ v',e = .returned v'∧Ow U.heap.size w' v' J∧Below U.heap.size U w'):=iY xss J hJ v U (hv.below rs.below) (by rw [←hJ];omega) hn
 obtain ⟨D,hD⟩ : ∃ D,w.heap.size=D:=⟨_,rfl⟩
 have HD:Hid (w.heap.size=D):=hD
 clear hH hb hn hl hv hJ hG rs
 have hz1:=hz w
 go_enter Tryz.func31,Tryz.ntmps31
 go_upto_region 1 with (fail)
 try rw [hU]
 try rw [hD]
 clear hU hz hz1
 go_wp2_with (first
  | (go_at_call 41;refine HC.out.mono ?_;rintro e w1 ⟨v1,rfl,g1,g2⟩;have O1:Hid (Ow U.heap.size w1 v1 J):=g1;have B1:Hid (Below U.heap.size U w1):=g2;clear g1 g2)
  | (go_at_call 40;refine (fh J G v1 HGH.out HJL.out w1 HJB.out O1.out.sq).mono ?_;rintro e w2 ⟨rfl,g1⟩;have B2:Hid (Below U.heap.size U w2):=Below.tr' B1.out g1;clear g1)
  | (go_at_call 66;refine (Ir HGL.out.1 HGL.out.2 w2).mono ?_;rintro e w3 ⟨rfl,g1⟩;rw [HRD.out];have B3:Hid (Below U.heap.size U w3):=Below.tr' B2.out g1;clear g1)
  | (refine wpList_store_mid rfl 22 (.tmp 2) (.tmp 6) rfl D 0 (bv H).toArray rfl rfl (by rw [List.size_toArray,ae,HL.out.len,←HD.out];exact RS.out.there B3.out) (by rw [List.size_toArray];exact aD HL.out) (ar _) ?_;simp only [YN]))
 have qq:(w3.setCells D 0 (bv H)).rangeAt D 0 (bv H):=World.rangeAt_setCells_same _ _ _ _ (by rw [ae,HL.out.len,←HD.out];exact RS.out.there B3.out)
 have hbl:Below w.heap.size w (w3.setCells D 0 (bv H)):=af (by rw [HD.out];exact Nat.le_refl _) _ _ (RS.out.below.trans (B3.out.mono RS.out.below.size))
 refine bodyPost_ret (v := .agg (bv H).toArray) ?_ rfl ⟨rfl,hbl⟩
 simp only [results,Tryz.results31]
 simp [Act.put,asAddr,run_loadVar_mid _ D 0 22 (bv H) _ qq Tryz.underlying22 rfl (aD HL.out)]
end Go.Proofs.YtajehiidpecknaaGreatDoor.Wi
