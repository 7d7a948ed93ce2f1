import Derived.Test.YtajehiidpecknaaGreatDoorVrE
set_option linter.all false
namespace Go.Proofs.YtajehiidpecknaaGreatDoor.Wi
open Go Go.RowKit
set_option maxRecDepth 100000
theorem ct:(Tryz.prog.info? 25).map (·.size)=some 80:=by kernel_rfl
theorem kd (w:World):(Instr.build 29 #[]).run Tryz.prog w = .ok (.agg (bv (List.replicate 64 0)).toArray) w:=run_build w _ _ _ (by kernel_rfl)
theorem jh:(List.replicate 64 (0:Int)).length=64:=List.length_replicate
theorem zh (W:World) {Z1 Z2 Z3:Array Value} {t1 t2 t3:TypeId} {x1 x2 x3:List Int} {n1 n2 n3:Nat} (z1:Z1.size=n1) (z2:Z2.size=n2) (z3:Z3.size=n3) (l1:x1.length=n1) (l2:x2.length=n2) (l3:x3.length=n3) {U:World} (hU:((W.alloc (.cells Z1 t1)).alloc (.cells Z2 t2)).alloc (.cells Z3 t3)=U) :
  U.there W.heap.size 0 n1∧(U.setCells W.heap.size 0 (bv x1)).there (W.heap.size+1) 0 n2∧((U.setCells W.heap.size 0 (bv x1)).setCells (W.heap.size+1) 0 (bv x2)).there (W.heap.size+1+1) 0 n3 ∧
  ∀ X,((U.setCells W.heap.size 0 (bv x1)).setCells (W.heap.size+1) 0 (bv x2)).setCells (W.heap.size+1+1) 0 (bv x3)=X→X.rangeAt W.heap.size 0 (bv x1)∧X.rangeAt (W.heap.size+1) 0 (bv x2)∧X.rangeAt (W.heap.size+1+1) 0 (bv x3)∧Below W.heap.size W X∧X.heap.size=W.heap.size+3:=by
 have s:U.heap.size=W.heap.size+3:=by rw [←hU];simp
 have b:Below W.heap.size W U:=by rw [←hU];exact (((Below.refl _ W).alloc (Nat.le_refl _) _).alloc (by simp) _).alloc (by simp;omega) _
 have r : ∀ i o,[Obj.cells Z1 t1 (0,0),.cells Z2 t2 (0,0),.cells Z3 t3 (0,0)][i]? = some o→U.heap[W.heap.size+i]? = some o:=fun i o h=>by rw [←hU];exact aV _ W.heap i o h
 have a1:U.there W.heap.size 0 n1:=aO (r 0 _ rfl) 0 n1 (by omega)
 have a2:=World.there_setCells (aO (r 1 _ rfl) 0 n2 (by omega)) W.heap.size 0 (bv x1)
 have a3:=World.there_setCells (World.there_setCells (aO (r 2 _ rfl) 0 n3 (by omega)) W.heap.size 0 (bv x1)) (W.heap.size+1) 0 (bv x2)
 refine ⟨a1,a2,a3,fun X hX => ?_⟩
 subst hX
 have q1:(U.setCells W.heap.size 0 (bv x1)).rangeAt W.heap.size 0 (bv x1):=World.rangeAt_setCells_same _ _ _ _ (by rw [ae,l1];exact a1)
 have q2:((U.setCells W.heap.size 0 (bv x1)).setCells (W.heap.size+1) 0 (bv x2)).rangeAt (W.heap.size+1) 0 (bv x2):=World.rangeAt_setCells_same _ _ _ _ (by rw [ae,l2];exact a2)
 refine ⟨World.rangeAt_setCells_apart (World.rangeAt_setCells_apart q1 _ _ _ (.inl (by omega))) _ _ _ (.inl (by omega)),World.rangeAt_setCells_apart q2 _ _ _ (.inl (by omega)),World.rangeAt_setCells_same _ _ _ _ (by rw [ae,l3];exact a3),af (by omega) _ _ (af (by omega) _ _ (af (Nat.le_refl _) _ _ b)),?_⟩
 rw [bR,bR,bR,s]
def otx (g:List Int):List (List Int):=[[3,3],Cl g,[0]]
def otE (q:List Int):Int:=if rk (pG q)=0∧cn (pT q)=true then 0 else 2
def otV (q:List Int):List Int:=if rk (pG q)=0∧cn (pT q)=true then h5 (joA (otx (pG q))) else List.replicate 64 0
theorem r7 (q:List Int):(otV q).length=64:=by unfold otV;split;exact bq _;exact jh
set_option maxHeartbeats 4000000 in
theorem xB (q:List Int) (hq:q.length=80) (hb:Byt q) (w:World) (hg:Glo Ve.MA w) :
  Calls Tryz.prog 11 #[.agg (bv q).toArray] w fun e w'=>e = .returned (.tuple #[.agg (bv (otV q)).toArray,.int .i64 (otE q)])∧Below w.heap.size w w':=by
 have HQ:Hid (q.length=80):=hq
 obtain ⟨G,hG⟩ : ∃ z,pG q=z:=⟨_,rfl⟩
 obtain ⟨T,hT⟩ : ∃ z,pT q=z:=⟨_,rfl⟩
 obtain ⟨K,hK⟩ : ∃ z,pC q=z:=⟨_,rfl⟩
 have HG:Hid (L32 G):=by rw [←hG];exact L32.pG hq hb
 have HT:Hid (L32 T):=by rw [←hT];exact L32.pT hq hb
 have HK:Hid (K.length=16):=by rw [←hK];exact kY hq
 have HPR:Hid (∀ W,Glo Ve.MA W→Calls Tryz.prog 34 #[.agg (bv q).toArray] W fun e w'=>e = .returned (.tuple #[.agg (bv G).toArray,.agg (bv K).toArray,.agg (bv T).toArray])∧Below W.heap.size W w'):=fun W hw=>by rw [←hG,←hT,←hK];exact CI hq W hw
 obtain ⟨ek,hek⟩ : ∃ z,rk G=z:=⟨_,rfl⟩
 obtain ⟨ck,hck⟩ : ∃ z,cn T=z:=⟨_,rfl⟩
 obtain ⟨C,hC⟩ : ∃ z,Cl G=z:=⟨_,rfl⟩
 have HC:Hid (L32 C):=by rw [←hC];exact L32.cl _
 have HCL:Hid (∀ W,Glo Ve.MA W→Calls Tryz.prog 35 #[.agg (bv G).toArray] W fun e w'=>e = .returned (.tuple #[.agg (bv C).toArray,.int .i64 ek])∧Below W.heap.size W w'):=fun W hw=>by rw [←hek,←hC];exact tR HG.out W (Ve.gp hw)
 have HCN:Hid (∀ W,Calls Tryz.prog 36 #[.agg (bv T).toArray] W fun e w'=>e = .returned (.bool ck)∧Below W.heap.size W w'):=fun W=>by rw [←hck];exact JH HT.out W
 obtain ⟨J,hJ⟩ : ∃ J,joA (otx G)=J:=⟨_,rfl⟩
 obtain ⟨H,hH⟩ : ∃ H,h5 J=H:=⟨_,rfl⟩
 have HJ:Hid (joA (otx G)=J):=hJ
 have HH:Hid (h5 J=H):=hH
 have HHL:Hid (H.length=64):=by rw [←hH];exact bq _
 have HJB:Hid (Byt J):=by rw [←hJ];exact iG (fun m hm=>by
  simp only [otx,List.mem_cons,List.not_mem_nil,or_false] at hm
  rcases hm with rfl | rfl | rfl
  ·intro z hz;simp only [List.mem_cons,List.not_mem_nil,or_false] at hz;omega
  ·exact (L32.cl _).byt
  ·intro z hz;simp only [List.mem_cons,List.not_mem_nil,or_false] at hz;omega) _
 have HJL:Hid (J.length≤140737488354000):=by
  rw [←hJ];show ((([] ++ [3,3]) ++ Cl G) ++ [0]).length≤_
  simp only [List.length_append,(L32.cl G).len];decide
 have HN:Hid ((otx G).length≤1000):=by show 3≤1000;omega
 have HOX:Hid (otx G = [[3,3],C,[0]]):=by rw [←hC];rfl
 have HOK:Hid (ek=0→ck=true→otV q=H∧otE q=0):=fun h1 h2=>by
  unfold otV otE
  rw [hG,hT,if_pos ⟨hek.trans h1,hck.trans h2⟩,if_pos ⟨hek.trans h1,hck.trans h2⟩,hJ,hH];exact ⟨rfl,rfl⟩
 have HNO:Hid (¬ (ek=0∧ck=true)→otV q=List.replicate 64 0∧otE q=2):=fun h=>by
  unfold otV otE
  rw [hG,hT,if_neg (fun x=>h ⟨hek.symm.trans x.1,hck.symm.trans x.2⟩),if_neg (fun x=>h ⟨hek.symm.trans x.1,hck.symm.trans x.2⟩)];exact ⟨rfl,rfl⟩
 have hz:=bG
 obtain ⟨Z,hZ⟩ : ∃ Z,(bv (List.replicate 32 0)).toArray=Z:=⟨_,rfl⟩
 have hZs:Z.size=32:=by rw [←hZ];simp [bv]
 have HZS:Hid (Z.size=32):=hZs
 rw [hZ] at hz
 have hz5:=ni
 obtain ⟨Z5,hZ5⟩ : ∃ Z,(bv (List.replicate 16 0)).toArray=Z:=⟨_,rfl⟩
 have hZs5:Z5.size=16:=by rw [←hZ5];simp [bv]
 have HZ5:Hid (Z5.size=16):=hZs5
 rw [hZ5] at hz5
 have hzr:=dZ
 obtain ⟨ZR,hZR⟩ : ∃ Z,(bv (List.replicate 64 0)).toArray=Z:=⟨_,rfl⟩
 have hZRs:ZR.size=64:=by rw [←hZR];simp [bv]
 have HZR:Hid (ZR.size=64):=hZRs
 have HZRE:Hid ((bv (List.replicate 64 0)).toArray=ZR):=hZR
 rw [hZR] at hzr
 obtain ⟨A0,hA0⟩ : ∃ A,(bv q).toArray=A:=⟨_,rfl⟩
 rw [hA0]
 obtain ⟨U,hU⟩ : ∃ U,((w.alloc (.cells A0 25)).alloc (.cells ZR 29))=U:=⟨_,rfl⟩
 have sU:U.heap.size=w.heap.size+2:=by rw [←hU];simp
 have bU:Below w.heap.size w U:=by rw [←hU];exact (((Below.refl _ w).alloc (by first | exact Nat.le_refl _ | (simp only [World.size_alloc];omega)) _).alloc (by first | exact Nat.le_refl _ | (simp only [World.size_alloc];omega)) _)
 have r0:U.rangeAt (w.heap.size) 0 (bv q):=fun j v hj=>by rw [Nat.zero_add,cell_of_row U _ j _ _ _ (show U.heap[w.heap.size]? = some (.cells A0 25 (0,0)) by rw [←hU];exact aV [.cells A0 25 (0,0),.cells ZR 29 (0,0)] w.heap 0 _ rfl),←hA0,List.getElem?_toArray];exact hj
 have thr:U.there (w.heap.size+1) 0 64:=aO (show U.heap[w.heap.size+1]? = some (.cells ZR 29 (0,0)) by rw [←hU];exact aV [.cells A0 25 (0,0),.cells ZR 29 (0,0)] w.heap 1 _ rfl) 0 64 (by omega)
 have BU:Hid (Below w.heap.size w U):=bU
 obtain ⟨D,hD⟩ : ∃ D,w.heap.size=D:=⟨_,rfl⟩
 have HD:Hid (w.heap.size=D):=hD
 rw [hD] at sU thr r0
 have SU:Hid (U.heap.size=D+2):=sU
 have THR:Hid (U.there (D+1) 0 64):=thr
 have LTR:Hid (D+1<U.heap.size):=by show _<_;omega
 have RQ:Hid (U.rangeAt (D) 0 (bv q)):=r0
 have LQ:Hid (D<U.heap.size):=by show _<_;omega
 clear sU bU thr hZR hZRs r0 hA0
 have HGU:Hid (Glo Ve.MA U):=hg.below BU.out
 clear hg hq hb hG hT hK hek hck hC hJ hH hZ hZs hZ5 hZs5
 go_enter Tryz.func11,Tryz.ntmps11
 go_upto_region 1 with (fail)
 try rw [hU]
 try rw [hD]
 clear hU hD
 have SQ:Hid ((bv q).toArray.size=80):=by show _=_;rw [List.size_toArray,ae,HQ.out]
 go_upto_region 2 with (first
  | (refine wpList_load_mid rfl 25 (.tmp 1) rfl (D) 0 rfl (bv q) _ RQ.out Tryz.underlying25 rfl (by rw [ae,HQ.out];exact ct) ?_)
  | (go_at_call 34;refine (HPR.out U HGU.out).mono ?_;rintro e W1 ⟨rfl,g1⟩;have BW1:Hid (Below U.heap.size U W1):=g1;obtain ⟨V,hV⟩ : ∃ V,((W1.alloc (.cells Z 22)).alloc (.cells Z5 47)).alloc (.cells Z 22)=V:=⟨_,rfl⟩;obtain ⟨a4,a5,a6,hX⟩:=zh W1 HZS.out HZ5.out HZS.out HG.out.len HK.out HT.out.len hV;have A4:Hid _:=a4;have A5:Hid _:=a5;have A6:Hid _:=a6;clear a4 a5 a6;clear g1)
  | (refine wpList_store_mid rfl 22 (.tmp 4) (.tmp 12) rfl (W1.heap.size) 0 (bv G).toArray rfl rfl (aK (HG.out.len) (A4.out)) (aC (HG.out.len) aF) (ar _) ?_;simp only [YN])
  | (refine wpList_store_mid rfl 47 (.tmp 5) (.tmp 13) rfl (W1.heap.size+1) 0 (bv K).toArray rfl rfl (aK (HK.out) (A5.out)) (aC (HK.out) gX) (ar _) ?_;simp only [YN])
  | (refine wpList_store_mid rfl 22 (.tmp 6) (.tmp 14) rfl (W1.heap.size+1+1) 0 (bv T).toArray rfl rfl (aK (HT.out.len) (A6.out)) (aC (HT.out.len) aF) (ar _) ?_;simp only [YN]))
 obtain ⟨b4,hb4⟩ : ∃ n,W1.heap.size=n:=⟨_,rfl⟩
 obtain ⟨W2,hW2⟩ : ∃ X,((V.setCells W1.heap.size 0 (bv G)).setCells (W1.heap.size+1) 0 (bv K)).setCells (W1.heap.size+1+1) 0 (bv T)=X:=⟨_,rfl⟩
 obtain ⟨r4,r5,r6,bX,sX⟩:=hX W2 hW2
 have BW2:Hid (Below W1.heap.size W1 W2):=bX
 rw [hb4] at r4 r6 sX
 have R4:Hid (W2.rangeAt b4 0 (bv G)):=r4
 have L4:Hid (b4<W2.heap.size):=by show _<_;omega
 have R6:Hid (W2.rangeAt (b4+1+1) 0 (bv T)):=r6
 have L6:Hid (b4+1+1<W2.heap.size):=by show _<_;omega
 have BU2:Hid (Below U.heap.size U W2):=Below.tr' BW1.out BW2.out
 have HG2:Hid (Glo Ve.MA W2):=aE HGU.out BU2.out
 try rw [hW2]
 try rw [hb4]
 clear r4 r5 r6 bX sX hX hb4 hW2 A4 A5 A6 hV
 go_upto_region 3 with (first
  | (refine wpList_load_mid rfl 22 (.tmp 4) rfl (b4) 0 rfl (bv G) _ R4.out Tryz.underlying22 rfl (by rw [ae,HG.out.len];exact aF) ?_)
  | (go_at_call 35;refine (HCL.out W2 HG2.out).mono ?_;rintro e W3 ⟨rfl,g1⟩;have BW3:Hid (Below W2.heap.size W2 W3):=g1;clear g1)
  | (refine wpList_store_mid rfl 22 (.tmp 7) (.tmp 18) rfl W3.heap.size 0 (bv C).toArray rfl rfl (bK W3 (HC.out.len) HZS.out) (aC (HC.out.len) aF) (ar _) ?_;simp only [YN]))
 obtain ⟨e7,he7⟩ : ∃ n,W3.heap.size=n:=⟨_,rfl⟩
 obtain ⟨W4,hW4⟩ : ∃ W,(W3.alloc (.cells Z 22)).setCells W3.heap.size 0 (bv C)=W:=⟨_,rfl⟩
 obtain ⟨l1,l2,l3⟩:=aS (by rw [ae,HC.out.len,HZS.out]) (by rw [ae,HC.out.len];omega) hW4
 have BW4:Hid (Below W3.heap.size W3 W4):=l2
 have R7:Hid (W4.rangeAt e7 0 (bv C)):=by rw [←he7];exact l1
 have L7:Hid (e7<W4.heap.size):=by rw [←he7];exact l3
 try rw [hW4]
 try rw [he7]
 clear l1 l2 l3 hW4 he7
 have BU4:Hid (Below U.heap.size U W4):=Below.tr' (Below.tr' BU2.out BW3.out) BW4.out
 have HG4:Hid (Glo Ve.MA W4):=aE HGU.out BU4.out
 have R6b:Hid (W4.rangeAt (b4+1+1) 0 (bv T)):=aa R6.out (Below.tr' BW3.out BW4.out) L6.out
 clear R6 L6 BU2 BW2 BW3 BW4 HG2
 have HBZ:Hid (∀ W:World,(Instr.build 29 #[]).run Tryz.prog W = .ok (.agg ZR) W):=fun W=>by rw [←HZRE.out];exact kd W
 obtain ⟨E0,hE0⟩ : ∃ z,List.replicate 64 (0:Int)=z:=⟨_,rfl⟩
 have HE:Hid (E0.length=64):=by rw [←hE0];exact jh
 have HEE:Hid (ZR=(bv E0).toArray):=by rw [←hE0];exact HZRE.out.symm
 have HNO2:Hid (¬ (ek=0∧ck=true)→otV q=E0∧otE q=2):=by rw [←hE0];exact HNO.out
 rw [HEE.out] at HBZ
 clear hE0 HNO
 by_cases h0:ek=0
 ·subst h0
  cases ck with
  | true =>
   obtain ⟨o1,o2⟩:=HOK.out rfl rfl
   have HO:Hid (otV q=H∧otE q=0):=⟨o1,o2⟩
   clear o1 o2 HOK HNO2 HBZ HEE
   go_upto_region 5 with (first
    | (refine lP rfl 22 (.tmp 6) rfl (b4+1+1) 0 rfl (bv T) _ R6b.out Tryz.underlying22 rfl (by rw [ae,HT.out.len];exact aF) ?_)
    | (go_at_call 36;refine (HCN.out W4).mono ?_;rintro e W5 ⟨rfl,g1⟩;have BW5:Hid (Below W4.heap.size W4 W5):=g1;clear g1))
   have BU5:Hid (Below U.heap.size U W5):=Below.tr' BU4.out BW5.out
   have R7b:Hid (W5.rangeAt e7 0 (bv C)):=aa R7.out BW5.out L7.out
   have L7b:Hid (e7<W5.heap.size):=YI L7.out BW5.out.size
   obtain ⟨U1,hU1⟩ : ∃ W,W5.alloc (.cells #[.int .u8 3,.int .u8 3] 5)=W:=⟨_,rfl⟩
   have bu1:Below W5.heap.size W5 U1:=by rw [←hU1];exact (Below.refl _ W5).alloc (Nat.le_refl _) _
   have sl1:Sl U1 (.slice (some ⟨W5.heap.size,0,none⟩) 2 2) [3,3]:=by rw [←hU1];exact eK W5 [3,3] _ 2 rfl
   obtain ⟨U2,hU2⟩ : ∃ W,U1.alloc (.cells #[.int .u8 0] 5)=W:=⟨_,rfl⟩
   have bu2:Below U1.heap.size U1 U2:=by rw [←hU2];exact (Below.refl _ U1).alloc (Nat.le_refl _) _
   have sl2:Sl U2 (.slice (some ⟨U1.heap.size,0,none⟩) 1 1) [0]:=by rw [←hU2];exact eK U1 [0] _ 1 rfl
   have BU6:Hid (Below W5.heap.size W5 U2):=bu1.trans (bu2.mono bu1.size)
   obtain ⟨f1,hf1⟩ : ∃ n,W5.heap.size=n:=⟨_,rfl⟩
   obtain ⟨f2,hf2⟩ : ∃ n,U1.heap.size=n:=⟨_,rfl⟩
   have HLL:Hid (LL (U2.alloc (.cells #[.slice (some ⟨f1,0,none⟩) 2 2,.slice (some ⟨e7,0,none⟩) 32 32,.slice (some ⟨f2,0,none⟩) 1 1] 23)) (.slice (some ⟨U2.heap.size,0,none⟩) 3 3) (otx G)):=by
    rw [HOX.out]
    refine lW [.slice (some ⟨f1,0,none⟩) 2 2,.slice (some ⟨e7,0,none⟩) 32 32,.slice (some ⟨f2,0,none⟩) 1 1] _ _ 3 rfl rfl (fun i u hu => ?_)
    match i,hu with
    | 0,hu=>cases hu;rw [←hf1];exact sl1.below bu2 (Nat.le_refl _)
    | 1,hu=>cases hu;exact (bo HC.out R7b.out L7b.out).below BU6.out (Nat.le_refl _)
    | 2,hu=>cases hu;rw [←hf2];exact sl2
    | n+3,hu=>simp at hu
   have BLL:Hid (Below U.heap.size U (U2.alloc (.cells #[.slice (some ⟨f1,0,none⟩) 2 2,.slice (some ⟨e7,0,none⟩) 32 32,.slice (some ⟨f2,0,none⟩) 1 1] 23))):=(Below.tr' BU5.out BU6.out).alloc (Below.tr' BU5.out BU6.out).size _
   clear sl1 sl2 bu1 bu2
   go_wp2_with (first
    | (go_at_call 23;refine (fg (otx G) J HJ.out _ _ HLL.out (Nat.le_trans HJL.out (by decide)) HN.out).mono ?_;rintro e W6 ⟨v1,rfl,g1,g2⟩;have B6:Hid (Below U.heap.size U W6):=Below.tr' BLL.out g2;have S6:Hid (Sq W6 v1 J):=g1.sq;have G6:Hid (Glo Ve.MA W6):=aE HGU.out B6.out;clear g1 g2)
    | (go_at_call 22;refine (gh J H _ HH.out HJL.out W6 (Ve.gp G6.out).tb HJB.out S6.out).mono ?_;rintro e W7 ⟨rfl,g1⟩;have B7:Hid (Below U.heap.size U W7):=Below.tr' B6.out g1;have THd:Hid _:=an THR.out B7.out LTR.out;clear g1)
    | (refine wpList_store_mid rfl 29 (.tmp 2) (.tmp 33) rfl (D+1) 0 (bv H).toArray rfl rfl (aK (HHL.out) (THd.out)) (aC (HHL.out) aR) (ar _) ?_;simp only [YN]))
   have qq:(W7.setCells (D+1) 0 (bv H)).rangeAt (D+1) 0 (bv H):=World.rangeAt_setCells_same _ _ _ _ (by rw [ae,HHL.out];exact THd.out)
   have hbl:Below w.heap.size w (W7.setCells (D+1) 0 (bv H)):=af (by rw [HD.out];omega) _ _ (BU.out.trans (B7.out.mono BU.out.size))
   try simp only [Exit.inBlock,Exit.then]
   refine bodyPost_ret (v := .tuple #[.agg (bv H).toArray,.int .i64 0]) ?_ rfl ⟨by rw [HO.out.1,HO.out.2],hbl⟩
   exact au Tryz.results11 _ _ (D+1) 0 (bv H) _ _ rfl rfl qq Tryz.underlying29 rfl (by rw [ae,HHL.out];exact aR)
  | false =>
   have HO:Hid (otV q=E0∧otE q=2):=HNO2.out (fun h=>by cases h.2)
   clear HOK HNO2
   go_upto_region 4 with (first
    | (refine lP rfl 22 (.tmp 6) rfl (b4+1+1) 0 rfl (bv T) _ R6b.out Tryz.underlying22 rfl (by rw [ae,HT.out.len];exact aF) ?_)
    | (go_at_call 36;refine (HCN.out W4).mono ?_;rintro e W5 ⟨rfl,g1⟩;have BW5:Hid (Below W4.heap.size W4 W5):=g1;clear g1))
   have BU5:Hid (Below U.heap.size U W5):=Below.tr' BU4.out BW5.out
   have THd:Hid _:=an THR.out BU5.out LTR.out
   go_wp2_with (first
    | (refine bm 29 rfl rfl _ (HBZ.out _) ?_)
    | (refine wpList_store_mid rfl 29 (.tmp 2) (.tmp 27) rfl (D+1) 0 (bv E0).toArray rfl rfl (aK (HE.out) (THd.out)) (aC (HE.out) aR) (ar _) ?_;simp only [YN]))
   have qq:(W5.setCells (D+1) 0 (bv E0)).rangeAt (D+1) 0 (bv E0):=World.rangeAt_setCells_same _ _ _ _ (by rw [ae,HE.out];exact THd.out)
   have hbl:Below w.heap.size w (W5.setCells (D+1) 0 (bv E0)):=af (by rw [HD.out];omega) _ _ (BU.out.trans (BU5.out.mono BU.out.size))
   try simp only [Exit.inBlock,Exit.then]
   refine bodyPost_ret (v := .tuple #[.agg (bv E0).toArray,.int .i64 2]) ?_ rfl ⟨by rw [HO.out.1,HO.out.2],hbl⟩
   exact au Tryz.results11 _ _ (D+1) 0 (bv E0) _ _ rfl rfl qq Tryz.underlying29 rfl (by rw [ae,HE.out];exact aR)
 ·have HO:Hid (otV q=E0∧otE q=2):=HNO2.out (fun h=>h0 h.1)
  clear HOK HNO2
  have THd:Hid _:=an THR.out BU4.out LTR.out
  go_wp2_with (first
   | (refine bm 29 rfl rfl _ (HBZ.out _) ?_)
   | (refine wpList_store_mid rfl 29 (.tmp 2) (.tmp 27) rfl (D+1) 0 (bv E0).toArray rfl rfl (aK (HE.out) (THd.out)) (aC (HE.out) aR) (ar _) ?_;simp only [YN]))
  have qq:(W4.setCells (D+1) 0 (bv E0)).rangeAt (D+1) 0 (bv E0):=World.rangeAt_setCells_same _ _ _ _ (by rw [ae,HE.out];exact THd.out)
  have hbl:Below w.heap.size w (W4.setCells (D+1) 0 (bv E0)):=af (by rw [HD.out];omega) _ _ (BU.out.trans (BU4.out.mono BU.out.size))
  try simp only [Exit.inBlock,Exit.then]
  refine bodyPost_ret (v := .tuple #[.agg (bv E0).toArray,.int .i64 2]) ?_ rfl ⟨by rw [HO.out.1,HO.out.2],hbl⟩
  exact au Tryz.results11 _ _ (D+1) 0 (bv E0) _ _ rfl rfl qq Tryz.underlying29 rfl (by rw [ae,HE.out];exact aR)
set_option maxHeartbeats 4000000 in
theorem uN (q:List Int) (hq:q.length=80) (hb:Byt q) (w:World) (hg:Glo Ve.MA w) :
  Calls Tryz.prog 12 #[.agg (bv q).toArray] w fun e w'=>e = .returned (.tuple #[.agg (bv (otV q)).toArray,.int .i64 (otE q)])∧Below w.heap.size w w':=by
 have HQ:Hid (q.length=80):=hq
 obtain ⟨G,hG⟩ : ∃ z,pG q=z:=⟨_,rfl⟩
 obtain ⟨T,hT⟩ : ∃ z,pT q=z:=⟨_,rfl⟩
 obtain ⟨K,hK⟩ : ∃ z,wd (pC q)=z:=⟨_,rfl⟩
 have HG:Hid (L32 G):=by rw [←hG];exact L32.pG hq hb
 have HT:Hid (L32 T):=by rw [←hT];exact L32.pT hq hb
 have HK:Hid (K.length=32):=by rw [←hK];exact (L32.wd (kY hq) (xw hb)).len
 have HPR:Hid (∀ W,Glo Ve.MA W→Calls Tryz.prog 37 #[.agg (bv q).toArray] W fun e w'=>e = .returned (.tuple #[.agg (bv G).toArray,.agg (bv K).toArray,.agg (bv T).toArray])∧Below W.heap.size W w'):=fun W hw=>by rw [←hG,←hT,←hK];exact yC hq W hw
 obtain ⟨ek,hek⟩ : ∃ z,rk G=z:=⟨_,rfl⟩
 obtain ⟨ck,hck⟩ : ∃ z,cn T=z:=⟨_,rfl⟩
 obtain ⟨C,hC⟩ : ∃ z,Cl G=z:=⟨_,rfl⟩
 have HC:Hid (L32 C):=by rw [←hC];exact L32.cl _
 have HCL:Hid (∀ W,Glo Ve.MA W→Calls Tryz.prog 38 #[.agg (bv G).toArray] W fun e w'=>e = .returned (.tuple #[.agg (bv C).toArray,.int .i64 ek])∧Below W.heap.size W w'):=fun W hw=>by rw [←hek,←hC];exact qw HG.out W
 have HCN:Hid (∀ W,Calls Tryz.prog 39 #[.agg (bv T).toArray] W fun e w'=>e = .returned (.bool ck)∧Below W.heap.size W w'):=fun W=>by rw [←hck];exact Iu HT.out W
 obtain ⟨J,hJ⟩ : ∃ J,joA (otx G)=J:=⟨_,rfl⟩
 obtain ⟨H,hH⟩ : ∃ H,h5 J=H:=⟨_,rfl⟩
 have HJ:Hid (joA (otx G)=J):=hJ
 have HH:Hid (h5 J=H):=hH
 have HHL:Hid (H.length=64):=by rw [←hH];exact bq _
 have HJB:Hid (Byt J):=by rw [←hJ];exact iG (fun m hm=>by
  simp only [otx,List.mem_cons,List.not_mem_nil,or_false] at hm
  rcases hm with rfl | rfl | rfl
  ·intro z hz;simp only [List.mem_cons,List.not_mem_nil,or_false] at hz;omega
  ·exact (L32.cl _).byt
  ·intro z hz;simp only [List.mem_cons,List.not_mem_nil,or_false] at hz;omega) _
 have HJL:Hid (J.length≤140737488354000):=by
  rw [←hJ];show ((([] ++ [3,3]) ++ Cl G) ++ [0]).length≤_
  simp only [List.length_append,(L32.cl G).len];decide
 have HN:Hid ((otx G).length≤1000):=by show 3≤1000;omega
 have HOX:Hid (otx G = [[3,3],C,[0]]):=by rw [←hC];rfl
 have HOK:Hid (ek=0→ck=true→otV q=H∧otE q=0):=fun h1 h2=>by
  unfold otV otE
  rw [hG,hT,if_pos ⟨hek.trans h1,hck.trans h2⟩,if_pos ⟨hek.trans h1,hck.trans h2⟩,hJ,hH];exact ⟨rfl,rfl⟩
 have HNO:Hid (¬ (ek=0∧ck=true)→otV q=List.replicate 64 0∧otE q=2):=fun h=>by
  unfold otV otE
  rw [hG,hT,if_neg (fun x=>h ⟨hek.symm.trans x.1,hck.symm.trans x.2⟩),if_neg (fun x=>h ⟨hek.symm.trans x.1,hck.symm.trans x.2⟩)];exact ⟨rfl,rfl⟩
 have hz:=bG
 obtain ⟨Z,hZ⟩ : ∃ Z,(bv (List.replicate 32 0)).toArray=Z:=⟨_,rfl⟩
 have hZs:Z.size=32:=by rw [←hZ];simp [bv]
 have HZS:Hid (Z.size=32):=hZs
 rw [hZ] at hz
 have hzr:=dZ
 obtain ⟨ZR,hZR⟩ : ∃ Z,(bv (List.replicate 64 0)).toArray=Z:=⟨_,rfl⟩
 have hZRs:ZR.size=64:=by rw [←hZR];simp [bv]
 have HZR:Hid (ZR.size=64):=hZRs
 have HZRE:Hid ((bv (List.replicate 64 0)).toArray=ZR):=hZR
 rw [hZR] at hzr
 obtain ⟨A0,hA0⟩ : ∃ A,(bv q).toArray=A:=⟨_,rfl⟩
 rw [hA0]
 obtain ⟨U,hU⟩ : ∃ U,((w.alloc (.cells A0 25)).alloc (.cells ZR 29))=U:=⟨_,rfl⟩
 have sU:U.heap.size=w.heap.size+2:=by rw [←hU];simp
 have bU:Below w.heap.size w U:=by rw [←hU];exact (((Below.refl _ w).alloc (by first | exact Nat.le_refl _ | (simp only [World.size_alloc];omega)) _).alloc (by first | exact Nat.le_refl _ | (simp only [World.size_alloc];omega)) _)
 have r0:U.rangeAt (w.heap.size) 0 (bv q):=fun j v hj=>by rw [Nat.zero_add,cell_of_row U _ j _ _ _ (show U.heap[w.heap.size]? = some (.cells A0 25 (0,0)) by rw [←hU];exact aV [.cells A0 25 (0,0),.cells ZR 29 (0,0)] w.heap 0 _ rfl),←hA0,List.getElem?_toArray];exact hj
 have thr:U.there (w.heap.size+1) 0 64:=aO (show U.heap[w.heap.size+1]? = some (.cells ZR 29 (0,0)) by rw [←hU];exact aV [.cells A0 25 (0,0),.cells ZR 29 (0,0)] w.heap 1 _ rfl) 0 64 (by omega)
 have BU:Hid (Below w.heap.size w U):=bU
 obtain ⟨D,hD⟩ : ∃ D,w.heap.size=D:=⟨_,rfl⟩
 have HD:Hid (w.heap.size=D):=hD
 rw [hD] at sU thr r0
 have SU:Hid (U.heap.size=D+2):=sU
 have THR:Hid (U.there (D+1) 0 64):=thr
 have LTR:Hid (D+1<U.heap.size):=by show _<_;omega
 have RQ:Hid (U.rangeAt (D) 0 (bv q)):=r0
 have LQ:Hid (D<U.heap.size):=by show _<_;omega
 clear sU bU thr hZR hZRs r0 hA0
 have HGU:Hid (Glo Ve.MA U):=hg.below BU.out
 clear hg hq hb hG hT hK hek hck hC hJ hH hZ hZs
 go_enter Tryz.func12,Tryz.ntmps12
 go_upto_region 1 with (fail)
 try rw [hU]
 try rw [hD]
 clear hU hD
 have SQ:Hid ((bv q).toArray.size=80):=by show _=_;rw [List.size_toArray,ae,HQ.out]
 go_upto_region 2 with (first
  | (refine wpList_load_mid rfl 25 (.tmp 1) rfl (D) 0 rfl (bv q) _ RQ.out Tryz.underlying25 rfl (by rw [ae,HQ.out];exact ct) ?_)
  | (go_at_call 37;refine (HPR.out U HGU.out).mono ?_;rintro e W1 ⟨rfl,g1⟩;have BW1:Hid (Below U.heap.size U W1):=g1;obtain ⟨V,hV⟩ : ∃ V,((W1.alloc (.cells Z 22)).alloc (.cells Z 22)).alloc (.cells Z 22)=V:=⟨_,rfl⟩;obtain ⟨a4,a5,a6,hX⟩:=zh W1 HZS.out HZS.out HZS.out HG.out.len HK.out HT.out.len hV;have A4:Hid _:=a4;have A5:Hid _:=a5;have A6:Hid _:=a6;clear a4 a5 a6;clear g1)
  | (refine wpList_store_mid rfl 22 (.tmp 4) (.tmp 12) rfl (W1.heap.size) 0 (bv G).toArray rfl rfl (aK (HG.out.len) (A4.out)) (aC (HG.out.len) aF) (ar _) ?_;simp only [YN])
  | (refine wpList_store_mid rfl 22 (.tmp 5) (.tmp 13) rfl (W1.heap.size+1) 0 (bv K).toArray rfl rfl (aK (HK.out) (A5.out)) (aC (HK.out) aF) (ar _) ?_;simp only [YN])
  | (refine wpList_store_mid rfl 22 (.tmp 6) (.tmp 14) rfl (W1.heap.size+1+1) 0 (bv T).toArray rfl rfl (aK (HT.out.len) (A6.out)) (aC (HT.out.len) aF) (ar _) ?_;simp only [YN]))
 obtain ⟨b4,hb4⟩ : ∃ n,W1.heap.size=n:=⟨_,rfl⟩
 obtain ⟨W2,hW2⟩ : ∃ X,((V.setCells W1.heap.size 0 (bv G)).setCells (W1.heap.size+1) 0 (bv K)).setCells (W1.heap.size+1+1) 0 (bv T)=X:=⟨_,rfl⟩
 obtain ⟨r4,r5,r6,bX,sX⟩:=hX W2 hW2
 have BW2:Hid (Below W1.heap.size W1 W2):=bX
 rw [hb4] at r4 r6 sX
 have R4:Hid (W2.rangeAt b4 0 (bv G)):=r4
 have L4:Hid (b4<W2.heap.size):=by show _<_;omega
 have R6:Hid (W2.rangeAt (b4+1+1) 0 (bv T)):=r6
 have L6:Hid (b4+1+1<W2.heap.size):=by show _<_;omega
 have BU2:Hid (Below U.heap.size U W2):=Below.tr' BW1.out BW2.out
 have HG2:Hid (Glo Ve.MA W2):=aE HGU.out BU2.out
 try rw [hW2]
 try rw [hb4]
 clear r4 r5 r6 bX sX hX hb4 hW2 A4 A5 A6 hV
 go_upto_region 3 with (first
  | (refine wpList_load_mid rfl 22 (.tmp 4) rfl (b4) 0 rfl (bv G) _ R4.out Tryz.underlying22 rfl (by rw [ae,HG.out.len];exact aF) ?_)
  | (go_at_call 38;refine (HCL.out W2 HG2.out).mono ?_;rintro e W3 ⟨rfl,g1⟩;have BW3:Hid (Below W2.heap.size W2 W3):=g1;clear g1)
  | (refine wpList_store_mid rfl 22 (.tmp 7) (.tmp 18) rfl W3.heap.size 0 (bv C).toArray rfl rfl (bK W3 (HC.out.len) HZS.out) (aC (HC.out.len) aF) (ar _) ?_;simp only [YN]))
 obtain ⟨e7,he7⟩ : ∃ n,W3.heap.size=n:=⟨_,rfl⟩
 obtain ⟨W4,hW4⟩ : ∃ W,(W3.alloc (.cells Z 22)).setCells W3.heap.size 0 (bv C)=W:=⟨_,rfl⟩
 obtain ⟨l1,l2,l3⟩:=aS (by rw [ae,HC.out.len,HZS.out]) (by rw [ae,HC.out.len];omega) hW4
 have BW4:Hid (Below W3.heap.size W3 W4):=l2
 have R7:Hid (W4.rangeAt e7 0 (bv C)):=by rw [←he7];exact l1
 have L7:Hid (e7<W4.heap.size):=by rw [←he7];exact l3
 try rw [hW4]
 try rw [he7]
 clear l1 l2 l3 hW4 he7
 have BU4:Hid (Below U.heap.size U W4):=Below.tr' (Below.tr' BU2.out BW3.out) BW4.out
 have HG4:Hid (Glo Ve.MA W4):=aE HGU.out BU4.out
 have R6b:Hid (W4.rangeAt (b4+1+1) 0 (bv T)):=aa R6.out (Below.tr' BW3.out BW4.out) L6.out
 clear R6 L6 BU2 BW2 BW3 BW4 HG2
 have HBZ:Hid (∀ W:World,(Instr.build 29 #[]).run Tryz.prog W = .ok (.agg ZR) W):=fun W=>by rw [←HZRE.out];exact kd W
 obtain ⟨E0,hE0⟩ : ∃ z,List.replicate 64 (0:Int)=z:=⟨_,rfl⟩
 have HE:Hid (E0.length=64):=by rw [←hE0];exact jh
 have HEE:Hid (ZR=(bv E0).toArray):=by rw [←hE0];exact HZRE.out.symm
 have HNO2:Hid (¬ (ek=0∧ck=true)→otV q=E0∧otE q=2):=by rw [←hE0];exact HNO.out
 rw [HEE.out] at HBZ
 clear hE0 HNO
 by_cases h0:ek=0
 ·subst h0
  cases ck with
  | true =>
   obtain ⟨o1,o2⟩:=HOK.out rfl rfl
   have HO:Hid (otV q=H∧otE q=0):=⟨o1,o2⟩
   clear o1 o2 HOK HNO2 HBZ HEE
   go_upto_region 5 with (first
    | (refine lP rfl 22 (.tmp 6) rfl (b4+1+1) 0 rfl (bv T) _ R6b.out Tryz.underlying22 rfl (by rw [ae,HT.out.len];exact aF) ?_)
    | (go_at_call 39;refine (HCN.out W4).mono ?_;rintro e W5 ⟨rfl,g1⟩;have BW5:Hid (Below W4.heap.size W4 W5):=g1;clear g1))
   have BU5:Hid (Below U.heap.size U W5):=Below.tr' BU4.out BW5.out
   have R7b:Hid (W5.rangeAt e7 0 (bv C)):=aa R7.out BW5.out L7.out
   have L7b:Hid (e7<W5.heap.size):=YI L7.out BW5.out.size
   obtain ⟨U1,hU1⟩ : ∃ W,W5.alloc (.cells #[.int .u8 3,.int .u8 3] 5)=W:=⟨_,rfl⟩
   have bu1:Below W5.heap.size W5 U1:=by rw [←hU1];exact (Below.refl _ W5).alloc (Nat.le_refl _) _
   have sl1:Sl U1 (.slice (some ⟨W5.heap.size,0,none⟩) 2 2) [3,3]:=by rw [←hU1];exact eK W5 [3,3] _ 2 rfl
   obtain ⟨U2,hU2⟩ : ∃ W,U1.alloc (.cells #[.int .u8 0] 5)=W:=⟨_,rfl⟩
   have bu2:Below U1.heap.size U1 U2:=by rw [←hU2];exact (Below.refl _ U1).alloc (Nat.le_refl _) _
   have sl2:Sl U2 (.slice (some ⟨U1.heap.size,0,none⟩) 1 1) [0]:=by rw [←hU2];exact eK U1 [0] _ 1 rfl
   have BU6:Hid (Below W5.heap.size W5 U2):=bu1.trans (bu2.mono bu1.size)
   obtain ⟨f1,hf1⟩ : ∃ n,W5.heap.size=n:=⟨_,rfl⟩
   obtain ⟨f2,hf2⟩ : ∃ n,U1.heap.size=n:=⟨_,rfl⟩
   have HLL:Hid (LL (U2.alloc (.cells #[.slice (some ⟨f1,0,none⟩) 2 2,.slice (some ⟨e7,0,none⟩) 32 32,.slice (some ⟨f2,0,none⟩) 1 1] 23)) (.slice (some ⟨U2.heap.size,0,none⟩) 3 3) (otx G)):=by
    rw [HOX.out]
    refine lW [.slice (some ⟨f1,0,none⟩) 2 2,.slice (some ⟨e7,0,none⟩) 32 32,.slice (some ⟨f2,0,none⟩) 1 1] _ _ 3 rfl rfl (fun i u hu => ?_)
    match i,hu with
    | 0,hu=>cases hu;rw [←hf1];exact sl1.below bu2 (Nat.le_refl _)
    | 1,hu=>cases hu;exact (bo HC.out R7b.out L7b.out).below BU6.out (Nat.le_refl _)
    | 2,hu=>cases hu;rw [←hf2];exact sl2
    | n+3,hu=>simp at hu
   have BLL:Hid (Below U.heap.size U (U2.alloc (.cells #[.slice (some ⟨f1,0,none⟩) 2 2,.slice (some ⟨e7,0,none⟩) 32 32,.slice (some ⟨f2,0,none⟩) 1 1] 23))):=(Below.tr' BU5.out BU6.out).alloc (Below.tr' BU5.out BU6.out).size _
   clear sl1 sl2 bu1 bu2
   go_wp2_with (first
    | (go_at_call 41;refine (iY (otx G) J HJ.out _ _ HLL.out (Nat.le_trans HJL.out (by decide)) HN.out).mono ?_;rintro e W6 ⟨v1,rfl,g1,g2⟩;have B6:Hid (Below U.heap.size U W6):=Below.tr' BLL.out g2;have S6:Hid (Sq W6 v1 J):=g1.sq;have G6:Hid (Glo Ve.MA W6):=aE HGU.out B6.out;clear g1 g2)
    | (go_at_call 40;refine (fh J H _ HH.out HJL.out W6 HJB.out S6.out).mono ?_;rintro e W7 ⟨rfl,g1⟩;have B7:Hid (Below U.heap.size U W7):=Below.tr' B6.out g1;have THd:Hid _:=an THR.out B7.out LTR.out;clear g1)
    | (refine wpList_store_mid rfl 29 (.tmp 2) (.tmp 33) rfl (D+1) 0 (bv H).toArray rfl rfl (aK (HHL.out) (THd.out)) (aC (HHL.out) aR) (ar _) ?_;simp only [YN]))
   have qq:(W7.setCells (D+1) 0 (bv H)).rangeAt (D+1) 0 (bv H):=World.rangeAt_setCells_same _ _ _ _ (by rw [ae,HHL.out];exact THd.out)
   have hbl:Below w.heap.size w (W7.setCells (D+1) 0 (bv H)):=af (by rw [HD.out];omega) _ _ (BU.out.trans (B7.out.mono BU.out.size))
   try simp only [Exit.inBlock,Exit.then]
   refine bodyPost_ret (v := .tuple #[.agg (bv H).toArray,.int .i64 0]) ?_ rfl ⟨by rw [HO.out.1,HO.out.2],hbl⟩
   exact au Tryz.results12 _ _ (D+1) 0 (bv H) _ _ rfl rfl qq Tryz.underlying29 rfl (by rw [ae,HHL.out];exact aR)
  | false =>
   have HO:Hid (otV q=E0∧otE q=2):=HNO2.out (fun h=>by cases h.2)
   clear HOK HNO2
   go_upto_region 4 with (first
    | (refine lP rfl 22 (.tmp 6) rfl (b4+1+1) 0 rfl (bv T) _ R6b.out Tryz.underlying22 rfl (by rw [ae,HT.out.len];exact aF) ?_)
    | (go_at_call 39;refine (HCN.out W4).mono ?_;rintro e W5 ⟨rfl,g1⟩;have BW5:Hid (Below W4.heap.size W4 W5):=g1;clear g1))
   have BU5:Hid (Below U.heap.size U W5):=Below.tr' BU4.out BW5.out
   have THd:Hid _:=an THR.out BU5.out LTR.out
   go_wp2_with (first
    | (refine bm 29 rfl rfl _ (HBZ.out _) ?_)
    | (refine wpList_store_mid rfl 29 (.tmp 2) (.tmp 27) rfl (D+1) 0 (bv E0).toArray rfl rfl (aK (HE.out) (THd.out)) (aC (HE.out) aR) (ar _) ?_;simp only [YN]))
   have qq:(W5.setCells (D+1) 0 (bv E0)).rangeAt (D+1) 0 (bv E0):=World.rangeAt_setCells_same _ _ _ _ (by rw [ae,HE.out];exact THd.out)
   have hbl:Below w.heap.size w (W5.setCells (D+1) 0 (bv E0)):=af (by rw [HD.out];omega) _ _ (BU.out.trans (BU5.out.mono BU.out.size))
   try simp only [Exit.inBlock,Exit.then]
   refine bodyPost_ret (v := .tuple #[.agg (bv E0).toArray,.int .i64 2]) ?_ rfl ⟨by rw [HO.out.1,HO.out.2],hbl⟩
   exact au Tryz.results12 _ _ (D+1) 0 (bv E0) _ _ rfl rfl qq Tryz.underlying29 rfl (by rw [ae,HE.out];exact aR)
 ·have HO:Hid (otV q=E0∧otE q=2):=HNO2.out (fun h=>h0 h.1)
  clear HOK HNO2
  have THd:Hid _:=an THR.out BU4.out LTR.out
  go_wp2_with (first
   | (refine bm 29 rfl rfl _ (HBZ.out _) ?_)
   | (refine wpList_store_mid rfl 29 (.tmp 2) (.tmp 27) rfl (D+1) 0 (bv E0).toArray rfl rfl (aK (HE.out) (THd.out)) (aC (HE.out) aR) (ar _) ?_;simp only [YN]))
  have qq:(W4.setCells (D+1) 0 (bv E0)).rangeAt (D+1) 0 (bv E0):=World.rangeAt_setCells_same _ _ _ _ (by rw [ae,HE.out];exact THd.out)
  have hbl:Below w.heap.size w (W4.setCells (D+1) 0 (bv E0)):=af (by rw [HD.out];omega) _ _ (BU.out.trans (BU4.out.mono BU.out.size))
  try simp only [Exit.inBlock,Exit.then]
  refine bodyPost_ret (v := .tuple #[.agg (bv E0).toArray,.int .i64 2]) ?_ rfl ⟨by rw [HO.out.1,HO.out.2],hbl⟩
  exact au Tryz.results12 _ _ (D+1) 0 (bv E0) _ _ rfl rfl qq Tryz.underlying29 rfl (by rw [ae,HE.out];exact aR)
end Go.Proofs.YtajehiidpecknaaGreatDoor.Wi
