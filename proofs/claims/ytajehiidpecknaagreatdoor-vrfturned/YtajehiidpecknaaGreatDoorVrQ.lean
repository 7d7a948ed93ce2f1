import Derived.Test.YtajehiidpecknaaGreatDoorVrP
import Derived.Test.YtajehiidpecknaaGreatDoorVrJ
set_option linter.all false
namespace Go.Proofs.YtajehiidpecknaaGreatDoor.Wi
open Go Go.RowKit
set_option maxRecDepth 100000
theorem gI {w:World} {b n o m:Nat} (h:w.there b 0 n) (hm:o+m≤n):w.there b o m:=fun j hj=>by
 have:=h (o+j) (by omega)
 rwa [Nat.zero_add] at this
theorem JE {n p q:List Int} {e:Int} (hn:L32 n) (hp:L32 p) (hq:Ml n p=q) (he:rk p=e) (w:World):Calls Tryz.prog 30 #[.agg (bv n).toArray,.agg (bv p).toArray] w fun e' w'=>e' = .returned (.tuple #[.agg (bv q).toArray,.int .i64 e])∧Below w.heap.size w w':=by subst hq;subst he;exact Ij hn hp w
def PV (e8 e9 e11 e13 e14:Nat) (Y I G K BK KI X:List Int):Nat→Option Value
 | 0=>some (.agg (bv Y).toArray)
 | 1=>some (.agg (bv I).toArray)
 | 2=>some (.agg (bv G).toArray)
 | 3=>some (.agg (bv K).toArray)
 | 4=>some (.agg (bv BK).toArray)
 | 5=>some (.agg (bv KI).toArray)
 | 6=>some (.agg (bv X).toArray)
 | _=>none
def Nv (e18 es:Nat):Nat→Option Value
 | 0=>some (.slice (some ⟨e18,0,none⟩) 32 80)
 | 1=>some (.slice (some ⟨es,0,none⟩) 32 32)
 | _=>none
def Of (e18 es:Nat):Nat→Option Value
 | 0=>some (.slice (some ⟨e18,32,none⟩) 16 48)
 | 1=>some (.slice (some ⟨es,0,none⟩) 16 32)
 | _=>none
def MV (e18 es:Nat):Nat→Option Value
 | 0=>some (.slice (some ⟨e18,48,none⟩) 32 32)
 | 1=>some (.slice (some ⟨es,0,none⟩) 32 32)
 | _=>none
set_option maxHeartbeats 8000000 in
theorem xH (s p:List Int) (hs:L32 s) (hp:Byt p) (hl:p.length≤140737488353000) (v:Value) (w:World) (hv:Sl w v p) :
  Calls Tryz.prog 10 #[.agg (bv s).toArray,v] w fun e w'=>e = .returned (.tuple #[.agg (bv (pvV s p)).toArray,.int .i64 (mA (pvI s p))])∧Below w.heap.size w w':=by
 have HS0:Hid (L32 s):=hs
 obtain ⟨S,hS⟩ : ∃ z,Ve.sk s=z:=⟨_,rfl⟩
 obtain ⟨P,hP⟩ : ∃ z,Ve.pf s=z:=⟨_,rfl⟩
 have HS:Hid (L32 S):=by rw [←hS];exact Ve.oI _
 have HP:Hid (L32 P):=by rw [←hP];exact Ve.tc _
 have HHV:Hid (∀ W,Calls Tryz.prog 27 #[.agg (bv s).toArray] W fun e w' => ∃ v',e = .returned (.tuple #[.agg (bv S).toArray,v'])∧Ow W.heap.size w' v' P∧Below W.heap.size W w'):=fun W=>by rw [←hS,←hP];exact mn s hs W
 obtain ⟨Y,hY⟩ : ∃ z,Bs S=z:=⟨_,rfl⟩
 have HY:Hid (L32 Y):=by rw [←hY];exact L32.bs _
 have HYE:Hid (Bs S=Y):=hY
 have HB8:Hid (∀ W,Calls Tryz.prog 28 #[.agg (bv S).toArray] W fun e w'=>e = .returned (.agg (bv Y).toArray)∧Below W.heap.size W w'):=fun W=>by rw [←hY];exact nX HS.out W
 obtain ⟨o,ho⟩ : ∃ z,inq Y p=z:=⟨_,rfl⟩
 have HIL:Hid (L32 (gU o)):=by rw [←ho];exact kc _ _ 256
 have HPO:Hid (∀ W,Sl W v p→Calls Tryz.prog 29 #[.agg (bv Y).toArray,v] W fun e w'=>e = .returned (.tuple #[.agg (bv (gU o)).toArray,.bool (vX o)])∧Below W.heap.size W w'):=fun W h1=>by rw [←ho];exact pU Y p HY.out hp hl v W h1
 have hpi:pvI s p=o:=by unfold pvI;rw [hS,hY,ho]
 have HPI:Hid (pvI s p=o):=hpi
 have hz:=bG
 obtain ⟨Z,hZ⟩ : ∃ Z,(bv (List.replicate 32 0)).toArray=Z:=⟨_,rfl⟩
 have hZs:Z.size=32:=by rw [←hZ];simp [bv]
 have HZS:Hid (Z.size=32):=hZs
 have HZE:Hid ((bv z32).toArray=Z):=hZ
 rw [hZ] at hz
 have HVW:Hid (Sl w v p):=hv
 rw [hpi]
 obtain ⟨I,hI⟩ : ∃ z,gU o=z:=⟨_,rfl⟩
 obtain ⟨ob,hob⟩ : ∃ z,vX o=z:=⟨_,rfl⟩
 obtain ⟨ek,hek⟩ : ∃ z,mA o=z:=⟨_,rfl⟩
 have HI:Hid (L32 I):=by rw [←hI];exact HIL.out
 have HIE:Hid (gU o=I):=hI
 have HOB:Hid (vX o=ob):=hob
 have HEK:Hid (mA o=ek):=hek
 rw [hI,hob] at HPO
 rw [hek]
 clear hI hek hob HIL
 have hzr:=eP
 obtain ⟨ZR,hZR⟩ : ∃ Z,(bv (List.replicate 80 0)).toArray=Z:=⟨_,rfl⟩
 have hZRs:ZR.size=80:=by rw [←hZR];simp [bv]
 have HZR:Hid (ZR.size=80):=hZRs
 have HZRE:Hid ((bv (List.replicate 80 0)).toArray=ZR):=hZR
 rw [hZR] at hzr
 obtain ⟨A0,hA0⟩ : ∃ A,(bv s).toArray=A:=⟨_,rfl⟩
 rw [hA0]
 obtain ⟨U,hU⟩ : ∃ U,((w.alloc (.cells A0 22)).alloc (.cells ZR 25))=U:=⟨_,rfl⟩
 have sU:U.heap.size=w.heap.size+2:=by rw [←hU];simp
 have bU:Below w.heap.size w U:=by rw [←hU];exact (((Below.refl _ w).alloc (by first | exact Nat.le_refl _ | (simp only [World.size_alloc];omega)) _).alloc (by first | exact Nat.le_refl _ | (simp only [World.size_alloc];omega)) _)
 have r0:U.rangeAt (w.heap.size) 0 (bv s):=fun j v hj=>by rw [Nat.zero_add,cell_of_row U _ j _ _ _ (show U.heap[w.heap.size]? = some (.cells A0 22 (0,0)) by rw [←hU];exact aV [.cells A0 22 (0,0),.cells ZR 25 (0,0)] w.heap 0 _ rfl),←hA0,List.getElem?_toArray];exact hj
 have thr:U.there (w.heap.size+1) 0 80:=aO (show U.heap[w.heap.size+1]? = some (.cells ZR 25 (0,0)) by rw [←hU];exact aV [.cells A0 22 (0,0),.cells ZR 25 (0,0)] w.heap 1 _ rfl) 0 80 (by omega)
 have BU:Hid (Below w.heap.size w U):=bU
 obtain ⟨D,hD⟩ : ∃ D,w.heap.size=D:=⟨_,rfl⟩
 have HD:Hid (w.heap.size=D):=hD
 rw [hD] at sU thr r0
 have SU:Hid (U.heap.size=D+2):=sU
 have THR:Hid (U.there (D+1) 0 80):=thr
 have LTR:Hid (D+1<U.heap.size):=by show _<_;omega
 have R0:Hid (U.rangeAt (D) 0 (bv s)):=r0
 have L0:Hid (D<U.heap.size):=by show _<_;omega
 clear sU bU thr hZR hZRs r0 hA0
 clear hs hp hl hv ho hpi hY hZ hZs
 go_enter Tryz.func10,Tryz.ntmps10
 go_upto_region 1 with (fail)
 try rw [hU]
 try rw [hD]
 clear hU hD
 go_upto_region 2 with (first
  | (refine wpList_load_mid rfl 22 (.tmp 2) rfl (D) 0 rfl (bv s) _ R0.out Tryz.underlying22 rfl (by rw [ae,HS0.out.len];exact aF) ?_)
  | (go_at_call 27;refine (HHV.out U).mono ?_;rintro e W1 ⟨vp,rfl,g0,g1⟩;have OP1:Hid (Sl W1 vp P):=g0.sl;have BW1:Hid (Below U.heap.size U W1):=g1;clear g0 g1)
  | (refine wpList_store_mid rfl 22 (.tmp 6) (.tmp 22) rfl W1.heap.size 0 (bv S).toArray rfl rfl (bK W1 (HS.out.len) HZS.out) (aC (HS.out.len) aF) (ar _) ?_;simp only [YN]))
 obtain ⟨e6,he6⟩ : ∃ n,W1.heap.size=n:=⟨_,rfl⟩
 obtain ⟨W2,hW2⟩ : ∃ W,(W1.alloc (.cells Z 22)).setCells W1.heap.size 0 (bv S)=W:=⟨_,rfl⟩
 obtain ⟨l1,l2,l3⟩:=aS (by rw [ae,HS.out.len,HZS.out]) (by rw [ae,HS.out.len];omega) hW2
 have BW2:Hid (Below W1.heap.size W1 W2):=l2
 have RS2:Hid (W2.rangeAt e6 0 (bv S)):=by rw [←he6];exact l1
 have LS2:Hid (e6<W2.heap.size):=by rw [←he6];exact l3
 try rw [hW2]
 try rw [he6]
 clear l1 l2 l3 hW2 he6
 have BU2:Hid (Below U.heap.size U W2):=Below.tr' BW1.out BW2.out
 have OP2:Hid (Sl W2 vp P):=OP1.out.below BW2.out (Nat.le_refl _)
 clear BW1 BW2 OP1 R0 L0
 go_upto_region 3 with (first
  | (refine wpList_load_mid rfl 22 (.tmp 6) rfl (e6) 0 rfl (bv S) _ RS2.out Tryz.underlying22 rfl (by rw [ae,HS.out.len];exact aF) ?_)
  | (go_at_call 28;refine (HB8.out W2).mono ?_;rintro e W3 ⟨rfl,g1⟩;have BW3:Hid (Below W2.heap.size W2 W3):=g1;clear g1)
  | (refine wpList_store_mid rfl 22 (.tmp 8) (.tmp 25) rfl W3.heap.size 0 (bv Y).toArray rfl rfl (bK W3 (HY.out.len) HZS.out) (aC (HY.out.len) aF) (ar _) ?_;simp only [YN]))
 obtain ⟨e8,he8⟩ : ∃ n,W3.heap.size=n:=⟨_,rfl⟩
 obtain ⟨W4,hW4⟩ : ∃ W,(W3.alloc (.cells Z 22)).setCells W3.heap.size 0 (bv Y)=W:=⟨_,rfl⟩
 obtain ⟨l1,l2,l3⟩:=aS (by rw [ae,HY.out.len,HZS.out]) (by rw [ae,HY.out.len];omega) hW4
 have BW4:Hid (Below W3.heap.size W3 W4):=l2
 have RY4:Hid (W4.rangeAt e8 0 (bv Y)):=by rw [←he8];exact l1
 have LY4:Hid (e8<W4.heap.size):=by rw [←he8];exact l3
 try rw [hW4]
 try rw [he8]
 clear l1 l2 l3 hW4 he8
 have B24:Hid (Below W2.heap.size W2 W4):=Below.tr' BW3.out BW4.out
 have RS4:Hid (W4.rangeAt (e6) 0 (bv S)):=aa RS2.out B24.out LS2.out
 have LS4:Hid (e6<W4.heap.size):=YI LS2.out B24.out.size
 clear RS2 LS2
 have BU4:Hid (Below U.heap.size U W4):=Below.tr' BU2.out B24.out
 have OP4:Hid (Sl W4 vp P):=OP2.out.below B24.out (Nat.le_refl _)
 have HV4:Hid (Sl W4 v p):=HVW.out.below (Below.tr' BU.out BU4.out) (Nat.le_refl _)
 clear BW3 BW4 B24 BU2 OP2
 obtain ⟨a0,c0,hv0,-,-⟩:=id HVW.out
 obtain ⟨n0,hn0⟩ : ∃ n,p.length=n:=⟨_,rfl⟩
 rw [hn0] at hv0
 subst hv0
 clear hn0
 go_upto_region 4 with (first
  | (refine wpList_load_mid rfl 22 (.tmp 8) rfl (e8) 0 rfl (bv Y) _ RY4.out Tryz.underlying22 rfl (by rw [ae,HY.out.len];exact aF) ?_)
  | (go_at_call 29;refine (HPO.out W4 HV4.out).mono ?_;rintro e W5 ⟨rfl,g1⟩;have BW5:Hid (Below W4.heap.size W4 W5):=g1;clear g1)
  | (refine wpList_store_mid rfl 22 (.tmp 9) (.tmp 30) rfl W5.heap.size 0 (bv I).toArray rfl rfl (bK W5 (HI.out.len) HZS.out) (aC (HI.out.len) aF) (ar _) ?_;simp only [YN]))
 obtain ⟨e9,he9⟩ : ∃ n,W5.heap.size=n:=⟨_,rfl⟩
 obtain ⟨W6,hW6⟩ : ∃ W,(W5.alloc (.cells Z 22)).setCells W5.heap.size 0 (bv I)=W:=⟨_,rfl⟩
 obtain ⟨l1,l2,l3⟩:=aS (by rw [ae,HI.out.len,HZS.out]) (by rw [ae,HI.out.len];omega) hW6
 have BW6:Hid (Below W5.heap.size W5 W6):=l2
 have RI6:Hid (W6.rangeAt e9 0 (bv I)):=by rw [←he9];exact l1
 have LI6:Hid (e9<W6.heap.size):=by rw [←he9];exact l3
 try rw [hW6]
 try rw [he9]
 clear l1 l2 l3 hW6 he9
 have B46:Hid (Below W4.heap.size W4 W6):=Below.tr' BW5.out BW6.out
 have RS6:Hid (W6.rangeAt (e6) 0 (bv S)):=aa RS4.out B46.out LS4.out
 have LS6:Hid (e6<W6.heap.size):=YI LS4.out B46.out.size
 have RY6:Hid (W6.rangeAt (e8) 0 (bv Y)):=aa RY4.out B46.out LY4.out
 have LY6:Hid (e8<W6.heap.size):=YI LY4.out B46.out.size
 clear RS4 LS4 RY4 LY4
 have BU6:Hid (Below U.heap.size U W6):=Below.tr' BU4.out B46.out
 have OP6:Hid (Sl W6 vp P):=OP4.out.below B46.out (Nat.le_refl _)
 clear BW5 BW6 B46 BU4 HV4 OP4
 cases o with
 | none =>
  obtain rfl:ek=4:=HEK.out.symm
  obtain rfl:ob=false:=HOB.out.symm
  have HBZ:Hid (∀ W:World,(Instr.build 25 #[]).run Tryz.prog W = .ok (.agg ZR) W):=fun W=>by rw [←HZRE.out];exact tU W
  obtain ⟨E0,hE0⟩ : ∃ z,List.replicate 80 (0:Int)=z:=⟨_,rfl⟩
  have HE:Hid (E0.length=80):=by rw [←hE0];exact List.length_replicate
  have HEE:Hid (ZR=(bv E0).toArray):=by rw [←hE0];exact HZRE.out.symm
  have HO2:Hid (pvV s p=E0):=by show _=_;rw [←hE0,pvV,HPI.out,pvW]
  rw [HEE.out] at HBZ
  have THd:Hid _:=an THR.out BU6.out LTR.out
  clear hE0 HEE HZRE
  go_wp2_with (first
   | (refine bm 25 rfl rfl _ (HBZ.out _) ?_)
   | (refine wpList_store_mid rfl 25 (.tmp 4) (.tmp 34) rfl (D+1) 0 (bv E0).toArray rfl rfl (aK (HE.out) (THd.out)) (aC (HE.out) ct) (ar _) ?_;simp only [YN]))
  have qq:(W6.setCells (D+1) 0 (bv E0)).rangeAt (D+1) 0 (bv E0):=World.rangeAt_setCells_same _ _ _ _ (by rw [ae,HE.out];exact THd.out)
  have hbl:Below w.heap.size w (W6.setCells (D+1) 0 (bv E0)):=af (by rw [HD.out];omega) _ _ (BU.out.trans (BU6.out.mono BU.out.size))
  try simp only [Exit.inBlock,Exit.then]
  refine bodyPost_ret (v := .tuple #[.agg (bv E0).toArray,.int .i64 4]) ?_ rfl ⟨by rw [HO2.out],hbl⟩
  exact au Tryz.results10 _ _ (D+1) 0 (bv E0) _ _ rfl rfl qq Tryz.underlying25 rfl (by rw [ae,HE.out];exact ct)
 | some I0 =>
  obtain rfl:ek=0:=HEK.out.symm
  obtain rfl:ob=true:=HOB.out.symm
  obtain rfl:I0=I:=HIE.out
  have HO:Hid (pvV s p=pvO s I0):=by show _=_;rw [pvV,HPI.out,pvW]
  obtain ⟨G,hG⟩ : ∃ z,Ml S I0=z:=⟨_,rfl⟩
  have HG:Hid (L32 G):=by rw [←hG];exact L32.ml _ _
  obtain ⟨K,hK⟩ : ∃ z,hd [P,I0]=z:=⟨_,rfl⟩
  have HK:Hid (L32 K):=by rw [←hK];exact L32.hd _
  have HKE:Hid (hd [P,I0]=K):=hK
  have HBY:Hid (∀ m ∈ [P,I0],Byt m):=fun m hm=>by
   simp only [List.mem_cons,List.not_mem_nil,or_false] at hm
   rcases hm with rfl | rfl
   ·exact HP.out.byt
   ·exact HI.out.byt
  have HJL:Hid ((joA [P,I0]).length≤140737488354000):=by
   show (([] ++ P) ++ I0).length≤_
   simp only [List.length_append,HP.out.len,HI.out.len];decide
  have HHS:Hid (∀ v' W,LL W v' [P,I0]→Calls Tryz.prog 31 #[v'] W fun e w'=>e = .returned (.agg (bv K).toArray)∧Below W.heap.size W w'):=fun v' W h=>vQ [P,I0] K HKE.out HBY.out (by show 2≤1000;omega) HJL.out v' W h
  obtain ⟨BK,hBK⟩ : ∃ z,Bs K=z:=⟨_,rfl⟩
  have HBKL:Hid (L32 BK):=by rw [←hBK];exact L32.bs _
  have HBK:Hid (∀ W,Calls Tryz.prog 28 #[.agg (bv K).toArray] W fun e w'=>e = .returned (.agg (bv BK).toArray)∧Below W.heap.size W w'):=fun W=>by rw [←hBK];exact nX HK.out W
  obtain ⟨rI,hrI⟩ : ∃ z,rk I0=z:=⟨_,rfl⟩
  obtain ⟨KI,hKI⟩ : ∃ z,Ml K I0=z:=⟨_,rfl⟩
  have HKIL:Hid (L32 KI):=by rw [←hKI];exact L32.ml _ _
  have HKI:Hid (∀ W,Calls Tryz.prog 30 #[.agg (bv K).toArray,.agg (bv I0).toArray] W fun e w'=>e = .returned (.tuple #[.agg (bv KI).toArray,.int .i64 rI])∧Below W.heap.size W w'):=JE HK.out HI.out hKI hrI
  have HGC:Hid (∀ W,Calls Tryz.prog 30 #[.agg (bv S).toArray,.agg (bv I0).toArray] W fun e w'=>e = .returned (.tuple #[.agg (bv G).toArray,.int .i64 rI])∧Below W.heap.size W w'):=JE HS.out HI.out hG hrI
  obtain ⟨C,hC⟩ : ∃ z,chl Y I0 G BK KI=z:=⟨_,rfl⟩
  have HC:Hid (C.length=16):=by rw [←hC];exact kr _ _ _ _ _
  have HCB:Hid (Byt C):=by rw [←hC];exact mQ _ _ _ _ _
  obtain ⟨X,hXE⟩ : ∃ z,wd C=z:=⟨_,rfl⟩
  have HXT:Hid (X.take 16=C):=by rw [←hXE];show (C ++ _).take 16=C;rw [List.take_append_of_le_length (by rw [HC.out];exact Nat.le_refl _),List.take_of_length_le (by rw [HC.out];exact Nat.le_refl _)]
  have HX:Hid (L32 X):=by rw [←hXE];exact L32.wd HC.out HCB.out
  have HCH:Hid (∀ W,Calls Tryz.prog 32 #[.agg (bv Y).toArray,.agg (bv I0).toArray,.agg (bv G).toArray,.agg (bv BK).toArray,.agg (bv KI).toArray] W fun e w'=>e = .returned (.agg (bv X).toArray)∧Below W.heap.size W w'):=fun W=>by
   have:=iu _ _ _ _ _ HY.out HI.out HG.out HBKL.out HKIL.out W
   rw [chw,hC,show C ++ List.replicate 16 0=X from hXE] at this
   exact this
  obtain ⟨D2,hD2⟩ : ∃ z,md X S K=z:=⟨_,rfl⟩
  have HD2:Hid (L32 D2):=by rw [←hD2];exact L32.md _ _ _
  have HMA:Hid (∀ W,Calls Tryz.prog 33 #[.agg (bv X).toArray,.agg (bv S).toArray,.agg (bv K).toArray] W fun e w'=>e = .returned (.agg (bv D2).toArray)∧Below W.heap.size W w'):=fun W=>by rw [←hD2];exact Iz HX.out HS.out HK.out W
  obtain ⟨O,hO⟩ : ∃ z,joA [G,C,D2]=z:=⟨_,rfl⟩
  have HOE:Hid ((G ++ C) ++ D2=O):=hO
  have hpo:pvO s I0=O:=by
   have k:pvK s I0=K:=by unfold pvK;rw [hP];exact hK
   have c:pvC s I0=C:=by unfold pvC;rw [k,hS,HYE.out,hG,hBK,hKI,hC]
   unfold pvO
   rw [c,k,hS,hG,hXE,hD2,hO]
  have HOL:Hid (O.length=80):=by rw [←hpo];exact sP _ _
  have HO2:Hid (pvV s p=O):=by rw [←hpo];exact HO.out
  clear hG hK hBK hKI hC hXE hD2 hO hpo HO hrI
  go_upto_region 7 with (first
   | (refine wpList_load_mid rfl 22 (.tmp 6) rfl (e6) 0 rfl (bv S) _ RS6.out Tryz.underlying22 rfl (by rw [ae,HS.out.len];exact aF) ?_)
   | (refine wpList_load_mid rfl 22 (.tmp 9) rfl (e9) 0 rfl (bv I0) _ RI6.out Tryz.underlying22 rfl (by rw [ae,HI.out.len];exact aF) ?_)
   | (go_at_call 30;refine (HGC.out W6).mono ?_;rintro e W7 ⟨rfl,g1⟩;have BW7:Hid (Below W6.heap.size W6 W7):=g1;clear g1)
   | (refine wpList_store_mid rfl 22 (.tmp 11) (.tmp 39) rfl W7.heap.size 0 (bv G).toArray rfl rfl (bK W7 (HG.out.len) HZS.out) (aC (HG.out.len) aF) (ar _) ?_;simp only [YN]))
  obtain ⟨e11,he11⟩ : ∃ n,W7.heap.size=n:=⟨_,rfl⟩
  obtain ⟨W8,hW8⟩ : ∃ W,(W7.alloc (.cells Z 22)).setCells W7.heap.size 0 (bv G)=W:=⟨_,rfl⟩
  obtain ⟨l1,l2,l3⟩:=aS (by rw [ae,HG.out.len,HZS.out]) (by rw [ae,HG.out.len];omega) hW8
  have BW8:Hid (Below W7.heap.size W7 W8):=l2
  have RG8:Hid (W8.rangeAt e11 0 (bv G)):=by rw [←he11];exact l1
  have LG8:Hid (e11<W8.heap.size):=by rw [←he11];exact l3
  try rw [hW8]
  try rw [he11]
  clear l1 l2 l3 hW8 he11
  have B68:Hid (Below W6.heap.size W6 W8):=Below.tr' BW7.out BW8.out
  have RS8:Hid (W8.rangeAt (e6) 0 (bv S)):=aa RS6.out B68.out LS6.out
  have LS8:Hid (e6<W8.heap.size):=YI LS6.out B68.out.size
  have RY8:Hid (W8.rangeAt (e8) 0 (bv Y)):=aa RY6.out B68.out LY6.out
  have LY8:Hid (e8<W8.heap.size):=YI LY6.out B68.out.size
  have RI8:Hid (W8.rangeAt (e9) 0 (bv I0)):=aa RI6.out B68.out LI6.out
  have LI8:Hid (e9<W8.heap.size):=YI LI6.out B68.out.size
  clear RS6 LS6 RY6 LY6 RI6 LI6
  have BU8:Hid (Below U.heap.size U W8):=Below.tr' BU6.out B68.out
  have OP8:Hid (Sl W8 vp P):=OP6.out.below B68.out (Nat.le_refl _)
  clear BW7 BW8 B68 BU6 OP6
  obtain ⟨a1,c1,hv1,-,-⟩:=id OP8.out
  obtain ⟨n1,hn1⟩ : ∃ n,P.length=n:=⟨_,rfl⟩
  rw [hn1] at hv1
  subst hv1
  have HLL:Hid (LL (W8.alloc (.cells #[.slice a1 n1 c1,.slice (some ⟨e9,0,none⟩) 32 32] 23)) (.slice (some ⟨W8.heap.size,0,none⟩) 2 2) [P,I0]):=Kz _ OP8.out (bo HI.out RI8.out LI8.out)
  have BLL:Hid (Below W8.heap.size W8 (W8.alloc (.cells #[.slice a1 n1 c1,.slice (some ⟨e9,0,none⟩) 32 32] 23))):=(Below.refl _ W8).alloc (Nat.le_refl _) _
  clear hn1
  go_upto_region 8 with (first
   | (go_at_call 31;refine (HHS.out _ _ HLL.out).mono ?_;rintro e Wa ⟨rfl,g1⟩;have BWa:Hid (Below W8.heap.size W8 Wa):=Below.tr' BLL.out g1;clear g1)
   | (refine wpList_store_mid rfl 22 (.tmp 13) (.tmp 44) rfl Wa.heap.size 0 (bv K).toArray rfl rfl (bK Wa (HK.out.len) HZS.out) (aC (HK.out.len) aF) (ar _) ?_;simp only [YN]))
  obtain ⟨e13,he13⟩ : ∃ n,Wa.heap.size=n:=⟨_,rfl⟩
  obtain ⟨Wb,hWb⟩ : ∃ W,(Wa.alloc (.cells Z 22)).setCells Wa.heap.size 0 (bv K)=W:=⟨_,rfl⟩
  obtain ⟨l1,l2,l3⟩:=aS (by rw [ae,HK.out.len,HZS.out]) (by rw [ae,HK.out.len];omega) hWb
  have BWb:Hid (Below Wa.heap.size Wa Wb):=l2
  have RKb:Hid (Wb.rangeAt e13 0 (bv K)):=by rw [←he13];exact l1
  have LKb:Hid (e13<Wb.heap.size):=by rw [←he13];exact l3
  try rw [hWb]
  try rw [he13]
  clear l1 l2 l3 hWb he13
  have B8b:Hid (Below W8.heap.size W8 Wb):=Below.tr' BWa.out BWb.out
  have RSb:Hid (Wb.rangeAt (e6) 0 (bv S)):=aa RS8.out B8b.out LS8.out
  have LSb:Hid (e6<Wb.heap.size):=YI LS8.out B8b.out.size
  have RYb:Hid (Wb.rangeAt (e8) 0 (bv Y)):=aa RY8.out B8b.out LY8.out
  have LYb:Hid (e8<Wb.heap.size):=YI LY8.out B8b.out.size
  have RIb:Hid (Wb.rangeAt (e9) 0 (bv I0)):=aa RI8.out B8b.out LI8.out
  have LIb:Hid (e9<Wb.heap.size):=YI LI8.out B8b.out.size
  have RGb:Hid (Wb.rangeAt (e11) 0 (bv G)):=aa RG8.out B8b.out LG8.out
  have LGb:Hid (e11<Wb.heap.size):=YI LG8.out B8b.out.size
  clear RS8 LS8 RY8 LY8 RI8 LI8 RG8 LG8
  have BUb:Hid (Below U.heap.size U Wb):=Below.tr' BU8.out B8b.out
  clear BWa BWb B8b BU8 OP8 HLL BLL
  go_upto_region 9 with (first
   | (refine wpList_load_mid rfl 22 (.tmp 13) rfl (e13) 0 rfl (bv K) _ RKb.out Tryz.underlying22 rfl (by rw [ae,HK.out.len];exact aF) ?_)
   | (refine wpList_load_mid rfl 22 (.tmp 9) rfl (e9) 0 rfl (bv I0) _ RIb.out Tryz.underlying22 rfl (by rw [ae,HI.out.len];exact aF) ?_)
   | (go_at_call 30;refine (HKI.out Wb).mono ?_;rintro e Wc ⟨rfl,g1⟩;have BWc:Hid (Below Wb.heap.size Wb Wc):=g1;clear g1)
   | (refine wpList_store_mid rfl 22 (.tmp 14) (.tmp 49) rfl Wc.heap.size 0 (bv KI).toArray rfl rfl (bK Wc (HKIL.out.len) HZS.out) (aC (HKIL.out.len) aF) (ar _) ?_;simp only [YN]))
  obtain ⟨e14,he14⟩ : ∃ n,Wc.heap.size=n:=⟨_,rfl⟩
  obtain ⟨W9,hW9⟩ : ∃ W,(Wc.alloc (.cells Z 22)).setCells Wc.heap.size 0 (bv KI)=W:=⟨_,rfl⟩
  obtain ⟨l1,l2,l3⟩:=aS (by rw [ae,HKIL.out.len,HZS.out]) (by rw [ae,HKIL.out.len];omega) hW9
  have BW9:Hid (Below Wc.heap.size Wc W9):=l2
  have RV9:Hid (W9.rangeAt e14 0 (bv KI)):=by rw [←he14];exact l1
  have LV9:Hid (e14<W9.heap.size):=by rw [←he14];exact l3
  try rw [hW9]
  try rw [he14]
  clear l1 l2 l3 hW9 he14
  have Bb9:Hid (Below Wb.heap.size Wb W9):=Below.tr' BWc.out BW9.out
  have RS9:Hid (W9.rangeAt (e6) 0 (bv S)):=aa RSb.out Bb9.out LSb.out
  have LS9:Hid (e6<W9.heap.size):=YI LSb.out Bb9.out.size
  have RY9:Hid (W9.rangeAt (e8) 0 (bv Y)):=aa RYb.out Bb9.out LYb.out
  have LY9:Hid (e8<W9.heap.size):=YI LYb.out Bb9.out.size
  have RI9:Hid (W9.rangeAt (e9) 0 (bv I0)):=aa RIb.out Bb9.out LIb.out
  have LI9:Hid (e9<W9.heap.size):=YI LIb.out Bb9.out.size
  have RG9:Hid (W9.rangeAt (e11) 0 (bv G)):=aa RGb.out Bb9.out LGb.out
  have LG9:Hid (e11<W9.heap.size):=YI LGb.out Bb9.out.size
  have RK9:Hid (W9.rangeAt (e13) 0 (bv K)):=aa RKb.out Bb9.out LKb.out
  have LK9:Hid (e13<W9.heap.size):=YI LKb.out Bb9.out.size
  clear RSb LSb RYb LYb RIb LIb RGb LGb RKb LKb
  have BU9:Hid (Below U.heap.size U W9):=Below.tr' BUb.out Bb9.out
  clear BWc BW9 Bb9 BUb
  refine RG.wp_rgn' (GI W9 (PV e8 e9 e11 e13 e14 Y I0 G K BK KI X) (fun _ _ _=>True) [(7,8,bv X,bv z32)]) (by kernel_rfl) (by kernel_rfl) GI.start ?_ ?_
  ·refine ⟨?_,?_,?_,?_,?_,?_,?_,?_,?_,trivial⟩
   ·intro a W d V hI hd hpx hbk hf hp
    have hO':Below W9.heap.size W9 W:=hI.be
    have q8:a.eval (.tmp 8) = .pointer (some ⟨e8,0,none⟩):=hf 8 rfl
    exact RU.ob_op rfl (RU.wanted_none rfl) (wp_load_mid 22 (.tmp 8) rfl (e8) (0) q8 (bv Y) _ (aa RY9.out hO' LY9.out) Tryz.underlying22 rfl (aD HY.out) ⟨_,rfl,hI.step (fun _ _ _ _ _ _=>trivial) (Below.refl _ _) 0 _ (by simp) (fun u hu=>by first | (cases hu;rfl) | cases hu) (trivial)⟩)
   ·intro a W d V hI hd hpx hbk hf hp
    have hO':Below W9.heap.size W9 W:=hI.be
    have q9:a.eval (.tmp 9) = .pointer (some ⟨e9,0,none⟩):=hf 9 rfl
    exact RU.ob_op rfl (RU.wanted_none rfl) (wp_load_mid 22 (.tmp 9) rfl (e9) (0) q9 (bv I0) _ (aa RI9.out hO' LI9.out) Tryz.underlying22 rfl (aD HI.out) ⟨_,rfl,hI.step (fun _ _ _ _ _ _=>trivial) (Below.refl _ _) 1 _ (by simp) (fun u hu=>by first | (cases hu;rfl) | cases hu) (trivial)⟩)
   ·intro a W d V hI hd hpx hbk hf hp
    have hO':Below W9.heap.size W9 W:=hI.be
    have q11:a.eval (.tmp 11) = .pointer (some ⟨e11,0,none⟩):=hf 11 rfl
    exact RU.ob_op rfl (RU.wanted_none rfl) (wp_load_mid 22 (.tmp 11) rfl (e11) (0) q11 (bv G) _ (aa RG9.out hO' LG9.out) Tryz.underlying22 rfl (aD HG.out) ⟨_,rfl,hI.step (fun _ _ _ _ _ _=>trivial) (Below.refl _ _) 2 _ (by simp) (fun u hu=>by first | (cases hu;rfl) | cases hu) (trivial)⟩)
   ·intro a W d V hI hd hpx hbk hf hp
    have hO':Below W9.heap.size W9 W:=hI.be
    have q13:a.eval (.tmp 13) = .pointer (some ⟨e13,0,none⟩):=hf 13 rfl
    exact RU.ob_op rfl (RU.wanted_none rfl) (wp_load_mid 22 (.tmp 13) rfl (e13) (0) q13 (bv K) _ (aa RK9.out hO' LK9.out) Tryz.underlying22 rfl (aD HK.out) ⟨_,rfl,hI.step (fun _ _ _ _ _ _=>trivial) (Below.refl _ _) 3 _ (by simp) (fun u hu=>by first | (cases hu;rfl) | cases hu) (trivial)⟩)
   ·intro a W d V hI hd hpx hbk hf hp
    have hO':Below W9.heap.size W9 W:=hI.be
    have e54:a.eval (.tmp 54) = .agg (bv K).toArray:=(hp 3 54 rfl).trans (hI.kn 3 _ rfl (hpx 3 rfl))
    have hno : ∀ x ∈ ([(7,8,bv X,bv z32)]:List Al),d x.2.1=false:=by simp only [List.mem_cons,List.not_mem_nil,or_false,forall_eq_or_imp,forall_eq];exact hbk 8 rfl
    refine RU.ob_call (g:=28) (args := #[.agg (bv K).toArray]) rfl (RU.wanted_none rfl) (fun ev he hc => ?_) ((HBK.out W).mono ?_)
    ·have h54:=(he (.tmp 54)).trans e54
     have hfn:=he (.func 28)
     simp only [qF,qD,qE,execOp,YO,YP]
     simp only [resolve,invoke,Sem.run_bind,Sem.run_pure,Result.andThen_ok,List.map_toArray,List.map_cons,List.map_nil,h54,hfn,Act.eval,hc]
     rfl
    ·rintro e' W2 ⟨rfl,hb2⟩
     exact ⟨_,rfl,⟨_,rfl,hI.step (fun _ _ _ _ _ _=>trivial) hb2 4 _ (by simp) (fun u hu=>by first | (cases hu;rfl) | cases hu) (trivial)⟩⟩
   ·intro a W d V hI hd hpx hbk hf hp
    have hO':Below W9.heap.size W9 W:=hI.be
    have q14:a.eval (.tmp 14) = .pointer (some ⟨e14,0,none⟩):=hf 14 rfl
    exact RU.ob_op rfl (RU.wanted_none rfl) (wp_load_mid 22 (.tmp 14) rfl (e14) (0) q14 (bv KI) _ (aa RV9.out hO' LV9.out) Tryz.underlying22 rfl (aD HKIL.out) ⟨_,rfl,hI.step (fun _ _ _ _ _ _=>trivial) (Below.refl _ _) 5 _ (by simp) (fun u hu=>by first | (cases hu;rfl) | cases hu) (trivial)⟩)
   ·intro a W d V hI hd hpx hbk hf hp
    have hO':Below W9.heap.size W9 W:=hI.be
    have e51:a.eval (.tmp 51) = .agg (bv Y).toArray:=(hp 0 51 rfl).trans (hI.kn 0 _ rfl (hpx 0 rfl))
    have e52:a.eval (.tmp 52) = .agg (bv I0).toArray:=(hp 1 52 rfl).trans (hI.kn 1 _ rfl (hpx 1 rfl))
    have e53:a.eval (.tmp 53) = .agg (bv G).toArray:=(hp 2 53 rfl).trans (hI.kn 2 _ rfl (hpx 2 rfl))
    have e55:a.eval (.tmp 55) = .agg (bv BK).toArray:=(hp 4 55 rfl).trans (hI.kn 4 _ rfl (hpx 4 rfl))
    have e56:a.eval (.tmp 56) = .agg (bv KI).toArray:=(hp 5 56 rfl).trans (hI.kn 5 _ rfl (hpx 5 rfl))
    have hno : ∀ x ∈ ([(7,8,bv X,bv z32)]:List Al),d x.2.1=false:=by simp only [List.mem_cons,List.not_mem_nil,or_false,forall_eq_or_imp,forall_eq];exact hbk 8 rfl
    refine RU.ob_call (g:=32) (args := #[.agg (bv Y).toArray,.agg (bv I0).toArray,.agg (bv G).toArray,.agg (bv BK).toArray,.agg (bv KI).toArray]) rfl (RU.wanted_none rfl) (fun ev he hc => ?_) ((HCH.out W).mono ?_)
    ·have h51:=(he (.tmp 51)).trans e51
     have h52:=(he (.tmp 52)).trans e52
     have h53:=(he (.tmp 53)).trans e53
     have h55:=(he (.tmp 55)).trans e55
     have h56:=(he (.tmp 56)).trans e56
     have hfn:=he (.func 32)
     simp only [qF,qD,qE,execOp,YO,YP]
     simp only [resolve,invoke,Sem.run_bind,Sem.run_pure,Result.andThen_ok,List.map_toArray,List.map_cons,List.map_nil,h51,h52,h53,h55,h56,hfn,Act.eval,hc]
     rfl
    ·rintro e' W2 ⟨rfl,hb2⟩
     exact ⟨_,rfl,⟨_,rfl,hI.step (fun _ _ _ _ _ _=>trivial) hb2 6 _ (by simp) (fun u hu=>by first | (cases hu;rfl) | cases hu) (trivial)⟩⟩
   ·intro a W d V hI hd hpx hbk hf hp
    have hO':Below W9.heap.size W9 W:=hI.be
    refine RU.ob_run (v := .pointer (some ⟨W.heap.size,0,none⟩)) (w':=W.alloc (.cells (bv z32).toArray 22)) rfl (RU.wanted_none rfl) (fun ev he hc => ?_) ⟨_,rfl,hI.alloc (fun _ _ _ _ _ _=>trivial) (7,8,bv X,bv z32) (by simp) 22 (hbk 8 rfl) (by simp) (by simp) rfl (fun _ _=>trivial)⟩
    simp only [qF,qD,qE,execOp]
    first | (go_simp;done) | (go_simp;rfl) | (go_simp;rw [HZE.out])
   ·intro a W d V hI hd hpx hbk hf hp
    have hO':Below W9.heap.size W9 W:=hI.be
    have d9:d 7=true:=hpx 7 rfl
    obtain ⟨b,hV,-,-,hth,-⟩:=hI.pt (7,8,bv X,bv z32) (by simp) d9
    have qp:a.eval (.tmp 16) = .pointer (some ⟨b,0,none⟩):=(hp 7 16 rfl).trans hV
    have qv:a.eval (.tmp 57) = .agg (bv X).toArray:=(hp 6 57 rfl).trans (hI.kn 6 _ rfl (hpx 6 rfl))
    exact RU.ob_op rfl (RU.wanted_none rfl) (wp_store_mid 22 (.tmp 16) (.tmp 57) rfl b 0 (bv X).toArray qp qv (by rw [List.size_toArray,(show (bv X).length=(bv z32).length by rw [ae,ae,HX.out.len,cr.len])];exact hth) (by rw [List.size_toArray];exact aD HX.out) (ar _) ⟨_,rfl,by simp only [YN];exact hI.store (7,8,bv X,bv z32) (by simp) d9 hV _ (by simp) (by simp) rfl (show (bv X).length=(bv z32).length by rw [ae,ae,HX.out.len,cr.len]) (by simp)⟩)
  intro W10 dW10 VW10 hal hI
  have BW10:Hid (Below W9.heap.size W9 W10):=hI.be
  have hs0:VW10 0 = .agg (bv Y).toArray:=hI.kn 0 _ rfl (hal 0 (by decide))
  have hs1:VW10 1 = .agg (bv I0).toArray:=hI.kn 1 _ rfl (hal 1 (by decide))
  have hs2:VW10 2 = .agg (bv G).toArray:=hI.kn 2 _ rfl (hal 2 (by decide))
  have hs3:VW10 3 = .agg (bv K).toArray:=hI.kn 3 _ rfl (hal 3 (by decide))
  have hs4:VW10 4 = .agg (bv BK).toArray:=hI.kn 4 _ rfl (hal 4 (by decide))
  have hs5:VW10 5 = .agg (bv KI).toArray:=hI.kn 5 _ rfl (hal 5 (by decide))
  have hs6:VW10 6 = .agg (bv X).toArray:=hI.kn 6 _ rfl (hal 6 (by decide))
  obtain ⟨b7,hs7,hb7,hl7,-,hr7⟩:=hI.pt (7,8,bv X,bv z32) (by simp) (hal 7 (by decide))
  have hs7:VW10 7 = .pointer (some ⟨b7,0,none⟩):=hs7
  have R7W10:Hid (W10.rangeAt b7 0 (bv X)):=by have h9:dW10 8=true:=hal 8 (by decide);simp only [h9,if_true] at hr7;exact hr7
  have L7W10:Hid (b7<W10.heap.size):=hl7
  have G7W10:Hid (W9.heap.size≤b7):=hb7
  simp only [RU.lay,Act.put,hs0,hs1,hs2,hs3,hs4,hs5,hs6,hs7]
  simp only [qA,qB,qC]
  clear hI hal hs0 hs1 hs2 hs3 hs4 hs5 hs6 hs7 hb7 hl7 hr7
  have RS10:Hid (W10.rangeAt (e6) 0 (bv S)):=aa RS9.out BW10.out LS9.out
  have LS10:Hid (e6<W10.heap.size):=YI LS9.out BW10.out.size
  have RG10:Hid (W10.rangeAt (e11) 0 (bv G)):=aa RG9.out BW10.out LG9.out
  have LG10:Hid (e11<W10.heap.size):=YI LG9.out BW10.out.size
  have RK10:Hid (W10.rangeAt (e13) 0 (bv K)):=aa RK9.out BW10.out LK9.out
  have LK10:Hid (e13<W10.heap.size):=YI LK9.out BW10.out.size
  clear RS9 LS9 RG9 LG9 RK9 LK9
  have RX10:Hid (W10.rangeAt b7 0 (bv X)):=R7W10
  have LX10:Hid (b7<W10.heap.size):=L7W10
  have BU10:Hid (Below U.heap.size U W10):=Below.tr' BU9.out BW10.out
  clear BW10 BU9 R7W10 L7W10 G7W10
  go_upto_region 11 with (first
   | (refine wpList_load_mid rfl 22 (.tmp 16) rfl (b7) 0 rfl (bv X) _ RX10.out Tryz.underlying22 rfl (by rw [ae,HX.out.len];exact aF) ?_)
   | (refine wpList_load_mid rfl 22 (.tmp 6) rfl (e6) 0 rfl (bv S) _ RS10.out Tryz.underlying22 rfl (by rw [ae,HS.out.len];exact aF) ?_)
   | (refine wpList_load_mid rfl 22 (.tmp 13) rfl (e13) 0 rfl (bv K) _ RK10.out Tryz.underlying22 rfl (by rw [ae,HK.out.len];exact aF) ?_)
   | (go_at_call 33;refine (HMA.out W10).mono ?_;rintro e W11 ⟨rfl,g1⟩;have BW11:Hid (Below W10.heap.size W10 W11):=g1;clear g1)
   | (refine wpList_store_mid rfl 22 (.tmp 17) (.tmp 61) rfl W11.heap.size 0 (bv D2).toArray rfl rfl (bK W11 (HD2.out.len) HZS.out) (aC (HD2.out.len) aF) (ar _) ?_;simp only [YN]))
  obtain ⟨e17,he17⟩ : ∃ n,W11.heap.size=n:=⟨_,rfl⟩
  obtain ⟨W12,hW12⟩ : ∃ W,(W11.alloc (.cells Z 22)).setCells W11.heap.size 0 (bv D2)=W:=⟨_,rfl⟩
  obtain ⟨l1,l2,l3⟩:=aS (by rw [ae,HD2.out.len,HZS.out]) (by rw [ae,HD2.out.len];omega) hW12
  have BW12:Hid (Below W11.heap.size W11 W12):=l2
  have RT12:Hid (W12.rangeAt e17 0 (bv D2)):=by rw [←he17];exact l1
  have LT12:Hid (e17<W12.heap.size):=by rw [←he17];exact l3
  try rw [hW12]
  try rw [he17]
  clear l1 l2 l3 hW12 he17
  have Bac:Hid (Below W10.heap.size W10 W12):=Below.tr' BW11.out BW12.out
  have RG12:Hid (W12.rangeAt (e11) 0 (bv G)):=aa RG10.out Bac.out LG10.out
  have LG12:Hid (e11<W12.heap.size):=YI LG10.out Bac.out.size
  have RX12:Hid (W12.rangeAt (b7) 0 (bv X)):=aa RX10.out Bac.out LX10.out
  have LX12:Hid (b7<W12.heap.size):=YI LX10.out Bac.out.size
  clear RG10 LG10 RX10 LX10
  have BU12:Hid (Below U.heap.size U W12):=Below.tr' BU10.out Bac.out
  clear BW11 BW12 Bac BU10
  go_upto_region 12 with (fail)
  obtain ⟨e18,he18⟩ : ∃ n,W12.heap.size=n:=⟨_,rfl⟩
  obtain ⟨W13,hW13⟩ : ∃ W,W12.alloc (.cells ZR 25)=W:=⟨_,rfl⟩
  have BW13:Hid (Below W12.heap.size W12 W13):=by rw [←hW13];exact (Below.refl _ W12).alloc (Nat.le_refl _) _
  have TH18:Hid (W13.there e18 0 80):=by rw [←hW13,←he18];exact bM W12 HZR.out.symm
  have L18:Hid (e18<W13.heap.size):=by show _<_;rw [←hW13,←he18];simp
  have G18:Hid (U.heap.size≤e18):=by show _≤_;rw [←he18];exact BU12.out.size
  have N11:Hid (¬ e11=e18):=by show ¬ _;rw [←he18];have:=LG12.out;omega
  have N7:Hid (¬ b7=e18):=by show ¬ _;rw [←he18];have:=LX12.out;omega
  have N17:Hid (¬ e17=e18):=by show ¬ _;rw [←he18];have:=LT12.out;omega
  have RG13:Hid (W13.rangeAt (e11) 0 (bv G)):=aa RG12.out BW13.out LG12.out
  have LG13:Hid (e11<W13.heap.size):=YI LG12.out BW13.out.size
  have RX13:Hid (W13.rangeAt (b7) 0 (bv X)):=aa RX12.out BW13.out LX12.out
  have LX13:Hid (b7<W13.heap.size):=YI LX12.out BW13.out.size
  have RT13:Hid (W13.rangeAt (e17) 0 (bv D2)):=aa RT12.out BW13.out LT12.out
  have LT13:Hid (e17<W13.heap.size):=YI LT12.out BW13.out.size
  clear RG12 LG12 RX12 LX12 RT12 LT12
  have BU13:Hid (Below U.heap.size U W13):=Below.tr' BU12.out BW13.out
  try rw [hW13]
  try rw [he18]
  clear hW13 he18 BW13 BU12
  refine RG.wp_rgn' (GL W13 (Nv e18 e11) (fun _ _ _=>True) [] 2 (e18) (0) (bv G)) (by kernel_rfl) (by kernel_rfl) GL.start ?_ ?_
  ·refine ⟨?_,?_,?_,trivial⟩
   ·refine GL.ob rfl ?_
    intro a W d V hI hd hpx hbk hf hp
    refine RU.ob_val (v := .slice (some ⟨e18,0,none⟩) 32 80) rfl (RU.wanted_none rfl) (fun ev he hc => ?_) ⟨_,rfl,hI.step (fun _ _ _ _ _ _=>trivial) (Below.refl _ _) 0 _ (by simp) (fun u hu=>by first | (cases hu;rfl) | cases hu) trivial⟩
    have q18:ev (.tmp 18) = .pointer (some ⟨e18,0,none⟩):=(he (.tmp 18)).trans (hf 18 rfl)
    simp only [qF,qD,qE,execOp,YO,YP];rw [q18]
    try simp only [hc]
    first | (go_simp;done) | (go_simp;rfl) | rfl
   ·refine GL.ob rfl ?_
    intro a W d V hI hd hpx hbk hf hp
    refine RU.ob_val (v := .slice (some ⟨e11,0,none⟩) 32 32) rfl (RU.wanted_none rfl) (fun ev he hc => ?_) ⟨_,rfl,hI.step (fun _ _ _ _ _ _=>trivial) (Below.refl _ _) 1 _ (by simp) (fun u hu=>by first | (cases hu;rfl) | cases hu) trivial⟩
    have q11:ev (.tmp 11) = .pointer (some ⟨e11,0,none⟩):=(he (.tmp 11)).trans (hf 11 rfl)
    simp only [qF,qD,qE,execOp,YO,YP];rw [q11]
    try simp only [hc]
    first | (go_simp;done) | (go_simp;rfl) | rfl
   ·refine GL.obs (fun a W d V hI hd hpx hbk hf hp => ?_)
    have hO':Below W13.heap.size W13 W:=hI.be
    have q1:a.eval (.tmp 62) = .slice (some ⟨e18,0,none⟩) 32 80:=(hp 0 62 rfl).trans (hI.kn 0 _ rfl (hpx 0 rfl))
    have q2:a.eval (.tmp 63) = .slice (some ⟨e11,0,none⟩) 32 32:=(hp 1 63 rfl).trans (hI.kn 1 _ rfl (hpx 1 rfl))
    have hth:W.there (e18) (0) (bv G).length:=by rw [ae,HG.out.len];exact gI (an TH18.out hO' L18.out) (by omega)
    have hrun:=run_copy_cells (P:=Tryz.prog) W 23 23 3 5 (e18) (0) 32 80 ⟨e11,0,none⟩ 32 32 (bv G) Tryz.underlying23 eh (by rw [ae,HG.out.len];rfl) (fun j u hu=>by rw [dO];exact (aa RG13.out hO' LG13.out) j u hu) (fun j hj=>(hth j hj).1) (fun j hj=>(hth j hj).2) (ia _)
    refine RU.ob_run (v:=goInt (bv G).length) (w':=W.setCells (e18) (0) (bv G)) rfl (RU.wanted_none rfl) (fun ev he hc => ?_) ⟨_,rfl,GL.stored hI rfl _⟩
    have e1:=(he (.tmp 62)).trans q1
    have e2:=(he (.tmp 63)).trans q2
    simp only [qF,qD,qE,execOp,resolve,invoke,builtin,Sem.run_bind,Sem.run_pure,Result.andThen_ok,List.map_toArray,List.map_cons,List.map_nil,e1,e2,hrun]
  intro W14x dW14 VW14 hal hG
  obtain ⟨hK,W14,W14y,hyW14⟩:=hG.fin (hal 2 (by decide))
  subst hyW14
  have BW14:Hid (Below W13.heap.size W13 W14):=W14y
  have hs0:VW14 0 = .slice (some ⟨e18,0,none⟩) 32 80:=hK 0 _ rfl (hal 0 (by decide))
  have hs1:VW14 1 = .slice (some ⟨e11,0,none⟩) 32 32:=hK 1 _ rfl (hal 1 (by decide))
  obtain ⟨u2W14,hs2⟩ : ∃ u,VW14 2=u:=⟨_,rfl⟩
  simp only [RU.lay,Act.put,hs0,hs1,hs2]
  simp only [qA,qB,qC]
  clear hG hK hal W14y hs0 hs1 hs2
  obtain ⟨W15,hW15⟩ : ∃ Y,W14.setCells e18 0 (bv G)=Y:=⟨_,rfl⟩
  have s9:W15.heap.size=W14.heap.size:=by rw [←hW15];exact bR _ _ _ _
  have th9:=an TH18.out BW14.out L18.out
  have RA0:Hid (W15.rangeAt e18 0 (bv G)):=by rw [←hW15];exact World.rangeAt_setCells_same _ _ _ _ (by rw [ae,HG.out.len];exact gI th9 (by omega))
  have TH18:Hid (W15.there e18 0 80):=by rw [←hW15];exact World.there_setCells th9 _ _ _
  have RX15:Hid (W15.rangeAt b7 0 (bv X)):=by rw [←hW15];exact World.rangeAt_setCells_apart (aa RX13.out BW14.out LX13.out) _ _ _ (.inl N7.out)
  have LX15:Hid (b7<W15.heap.size):=by show _<_;rw [s9];exact YI LX13.out BW14.out.size
  have RT15:Hid (W15.rangeAt e17 0 (bv D2)):=by rw [←hW15];exact World.rangeAt_setCells_apart (aa RT13.out BW14.out LT13.out) _ _ _ (.inl N17.out)
  have LT15:Hid (e17<W15.heap.size):=by show _<_;rw [s9];exact YI LT13.out BW14.out.size
  have L18:Hid (e18<W15.heap.size):=by show _<_;rw [s9];exact YI L18.out BW14.out.size
  have BU15:Hid (Below U.heap.size U W15):=by rw [←hW15];exact af G18.out _ _ (Below.tr' BU13.out BW14.out)
  rw [hW15]
  clear hW15 s9 th9
  have RC15:Hid (W15.rangeAt b7 0 (bv C)):=by have:=dN (n:=16) RX15.out;rw [HXT.out] at this;exact this
  have LC15:Hid (b7<W15.heap.size):=LX15
  go_upto_region 13 with (fail)
  refine RG.wp_rgn' (GL W15 (Of e18 b7) (fun _ _ _=>True) [] 2 (e18) (32) (bv C)) (by kernel_rfl) (by kernel_rfl) GL.start ?_ ?_
  ·refine ⟨?_,?_,?_,trivial⟩
   ·refine GL.ob rfl ?_
    intro a W d V hI hd hpx hbk hf hp
    refine RU.ob_val (v := .slice (some ⟨e18,32,none⟩) 16 48) rfl (RU.wanted_none rfl) (fun ev he hc => ?_) ⟨_,rfl,hI.step (fun _ _ _ _ _ _=>trivial) (Below.refl _ _) 0 _ (by simp) (fun u hu=>by first | (cases hu;rfl) | cases hu) trivial⟩
    have q18:ev (.tmp 18) = .pointer (some ⟨e18,0,none⟩):=(he (.tmp 18)).trans (hf 18 rfl)
    simp only [qF,qD,qE,execOp,YO,YP];rw [q18]
    try simp only [hc]
    first | (go_simp;done) | (go_simp;rfl) | rfl
   ·refine GL.ob rfl ?_
    intro a W d V hI hd hpx hbk hf hp
    refine RU.ob_val (v := .slice (some ⟨b7,0,none⟩) 16 32) rfl (RU.wanted_none rfl) (fun ev he hc => ?_) ⟨_,rfl,hI.step (fun _ _ _ _ _ _=>trivial) (Below.refl _ _) 1 _ (by simp) (fun u hu=>by first | (cases hu;rfl) | cases hu) trivial⟩
    have q16:ev (.tmp 16) = .pointer (some ⟨b7,0,none⟩):=(he (.tmp 16)).trans (hf 16 rfl)
    simp only [qF,qD,qE,execOp,YO,YP];rw [q16]
    try simp only [hc]
    first | (go_simp;done) | (go_simp;rfl) | rfl
   ·refine GL.obs (fun a W d V hI hd hpx hbk hf hp => ?_)
    have hO':Below W15.heap.size W15 W:=hI.be
    have q1:a.eval (.tmp 65) = .slice (some ⟨e18,32,none⟩) 16 48:=(hp 0 65 rfl).trans (hI.kn 0 _ rfl (hpx 0 rfl))
    have q2:a.eval (.tmp 66) = .slice (some ⟨b7,0,none⟩) 16 32:=(hp 1 66 rfl).trans (hI.kn 1 _ rfl (hpx 1 rfl))
    have hth:W.there (e18) (32) (bv C).length:=by rw [ae,HC.out];exact gI (an TH18.out hO' L18.out) (by omega)
    have hrun:=run_copy_cells (P:=Tryz.prog) W 23 23 3 5 (e18) (32) 16 48 ⟨b7,0,none⟩ 16 32 (bv C) Tryz.underlying23 eh (by rw [ae,HC.out];rfl) (fun j u hu=>by rw [dO];exact (aa RC15.out hO' LC15.out) j u hu) (fun j hj=>(hth j hj).1) (fun j hj=>(hth j hj).2) (ia _)
    refine RU.ob_run (v:=goInt (bv C).length) (w':=W.setCells (e18) (32) (bv C)) rfl (RU.wanted_none rfl) (fun ev he hc => ?_) ⟨_,rfl,GL.stored hI rfl _⟩
    have e1:=(he (.tmp 65)).trans q1
    have e2:=(he (.tmp 66)).trans q2
    simp only [qF,qD,qE,execOp,resolve,invoke,builtin,Sem.run_bind,Sem.run_pure,Result.andThen_ok,List.map_toArray,List.map_cons,List.map_nil,e1,e2,hrun]
  intro W16x dW16 VW16 hal hG
  obtain ⟨hK,W16,W16y,hyW16⟩:=hG.fin (hal 2 (by decide))
  subst hyW16
  have BW16:Hid (Below W15.heap.size W15 W16):=W16y
  have hs0:VW16 0 = .slice (some ⟨e18,32,none⟩) 16 48:=hK 0 _ rfl (hal 0 (by decide))
  have hs1:VW16 1 = .slice (some ⟨b7,0,none⟩) 16 32:=hK 1 _ rfl (hal 1 (by decide))
  obtain ⟨u2W16,hs2⟩ : ∃ u,VW16 2=u:=⟨_,rfl⟩
  simp only [RU.lay,Act.put,hs0,hs1,hs2]
  simp only [qA,qB,qC]
  clear hG hK hal W16y hs0 hs1 hs2
  obtain ⟨W17,hW17⟩ : ∃ Y,W16.setCells e18 32 (bv C)=Y:=⟨_,rfl⟩
  have s9:W17.heap.size=W16.heap.size:=by rw [←hW17];exact bR _ _ _ _
  have th9:=an TH18.out BW16.out L18.out
  have RA32:Hid (W17.rangeAt e18 32 (bv C)):=by rw [←hW17];exact World.rangeAt_setCells_same _ _ _ _ (by rw [ae,HC.out];exact gI th9 (by omega))
  have RA0:Hid (W17.rangeAt e18 0 (bv G)):=by rw [←hW17];exact World.rangeAt_setCells_apart (aa RA0.out BW16.out L18.out) _ _ _ (.inr (.inl (by rw [ae,HG.out.len];omega)))
  have TH18:Hid (W17.there e18 0 80):=by rw [←hW17];exact World.there_setCells th9 _ _ _
  have RT17:Hid (W17.rangeAt e17 0 (bv D2)):=by rw [←hW17];exact World.rangeAt_setCells_apart (aa RT15.out BW16.out LT15.out) _ _ _ (.inl N17.out)
  have LT17:Hid (e17<W17.heap.size):=by show _<_;rw [s9];exact YI LT15.out BW16.out.size
  have L18:Hid (e18<W17.heap.size):=by show _<_;rw [s9];exact YI L18.out BW16.out.size
  have BU17:Hid (Below U.heap.size U W17):=by rw [←hW17];exact af G18.out _ _ (Below.tr' BU15.out BW16.out)
  rw [hW17]
  clear hW17 s9 th9
  go_upto_region 14 with (fail)
  refine RG.wp_rgn' (GL W17 (MV e18 e17) (fun _ _ _=>True) [] 2 (e18) (48) (bv D2)) (by kernel_rfl) (by kernel_rfl) GL.start ?_ ?_
  ·refine ⟨?_,?_,?_,trivial⟩
   ·refine GL.ob rfl ?_
    intro a W d V hI hd hpx hbk hf hp
    refine RU.ob_val (v := .slice (some ⟨e18,48,none⟩) 32 32) rfl (RU.wanted_none rfl) (fun ev he hc => ?_) ⟨_,rfl,hI.step (fun _ _ _ _ _ _=>trivial) (Below.refl _ _) 0 _ (by simp) (fun u hu=>by first | (cases hu;rfl) | cases hu) trivial⟩
    have q18:ev (.tmp 18) = .pointer (some ⟨e18,0,none⟩):=(he (.tmp 18)).trans (hf 18 rfl)
    simp only [qF,qD,qE,execOp,YO,YP];rw [q18]
    try simp only [hc]
    first | (go_simp;done) | (go_simp;rfl) | rfl
   ·refine GL.ob rfl ?_
    intro a W d V hI hd hpx hbk hf hp
    refine RU.ob_val (v := .slice (some ⟨e17,0,none⟩) 32 32) rfl (RU.wanted_none rfl) (fun ev he hc => ?_) ⟨_,rfl,hI.step (fun _ _ _ _ _ _=>trivial) (Below.refl _ _) 1 _ (by simp) (fun u hu=>by first | (cases hu;rfl) | cases hu) trivial⟩
    have q17:ev (.tmp 17) = .pointer (some ⟨e17,0,none⟩):=(he (.tmp 17)).trans (hf 17 rfl)
    simp only [qF,qD,qE,execOp,YO,YP];rw [q17]
    try simp only [hc]
    first | (go_simp;done) | (go_simp;rfl) | rfl
   ·refine GL.obs (fun a W d V hI hd hpx hbk hf hp => ?_)
    have hO':Below W17.heap.size W17 W:=hI.be
    have q1:a.eval (.tmp 68) = .slice (some ⟨e18,48,none⟩) 32 32:=(hp 0 68 rfl).trans (hI.kn 0 _ rfl (hpx 0 rfl))
    have q2:a.eval (.tmp 69) = .slice (some ⟨e17,0,none⟩) 32 32:=(hp 1 69 rfl).trans (hI.kn 1 _ rfl (hpx 1 rfl))
    have hth:W.there (e18) (48) (bv D2).length:=by rw [ae,HD2.out.len];exact gI (an TH18.out hO' L18.out) (by omega)
    have hrun:=run_copy_cells (P:=Tryz.prog) W 23 23 3 5 (e18) (48) 32 32 ⟨e17,0,none⟩ 32 32 (bv D2) Tryz.underlying23 eh (by rw [ae,HD2.out.len];rfl) (fun j u hu=>by rw [dO];exact (aa RT17.out hO' LT17.out) j u hu) (fun j hj=>(hth j hj).1) (fun j hj=>(hth j hj).2) (ia _)
    refine RU.ob_run (v:=goInt (bv D2).length) (w':=W.setCells (e18) (48) (bv D2)) rfl (RU.wanted_none rfl) (fun ev he hc => ?_) ⟨_,rfl,GL.stored hI rfl _⟩
    have e1:=(he (.tmp 68)).trans q1
    have e2:=(he (.tmp 69)).trans q2
    simp only [qF,qD,qE,execOp,resolve,invoke,builtin,Sem.run_bind,Sem.run_pure,Result.andThen_ok,List.map_toArray,List.map_cons,List.map_nil,e1,e2,hrun]
  intro W18x dW18 VW18 hal hG
  obtain ⟨hK,W18,W18y,hyW18⟩:=hG.fin (hal 2 (by decide))
  subst hyW18
  have BW18:Hid (Below W17.heap.size W17 W18):=W18y
  have hs0:VW18 0 = .slice (some ⟨e18,48,none⟩) 32 32:=hK 0 _ rfl (hal 0 (by decide))
  have hs1:VW18 1 = .slice (some ⟨e17,0,none⟩) 32 32:=hK 1 _ rfl (hal 1 (by decide))
  obtain ⟨u2W18,hs2⟩ : ∃ u,VW18 2=u:=⟨_,rfl⟩
  simp only [RU.lay,Act.put,hs0,hs1,hs2]
  simp only [qA,qB,qC]
  clear hG hK hal W18y hs0 hs1 hs2
  obtain ⟨W19,hW19⟩ : ∃ Y,W18.setCells e18 48 (bv D2)=Y:=⟨_,rfl⟩
  have s9:W19.heap.size=W18.heap.size:=by rw [←hW19];exact bR _ _ _ _
  have th9:=an TH18.out BW18.out L18.out
  have RA48:Hid (W19.rangeAt e18 48 (bv D2)):=by rw [←hW19];exact World.rangeAt_setCells_same _ _ _ _ (by rw [ae,HD2.out.len];exact gI th9 (by omega))
  have RA0:Hid (W19.rangeAt e18 0 (bv G)):=by rw [←hW19];exact World.rangeAt_setCells_apart (aa RA0.out BW18.out L18.out) _ _ _ (.inr (.inl (by rw [ae,HG.out.len];omega)))
  have RA32:Hid (W19.rangeAt e18 32 (bv C)):=by rw [←hW19];exact World.rangeAt_setCells_apart (aa RA32.out BW18.out L18.out) _ _ _ (.inr (.inl (by rw [ae,HC.out];omega)))
  have TH18:Hid (W19.there e18 0 80):=by rw [←hW19];exact World.there_setCells th9 _ _ _
  have L18:Hid (e18<W19.heap.size):=by show _<_;rw [s9];exact YI L18.out BW18.out.size
  have BU19:Hid (Below U.heap.size U W19):=by rw [←hW19];exact af G18.out _ _ (Below.tr' BU17.out BW18.out)
  rw [hW19]
  clear hW19 s9 th9
  have RO:Hid (W19.rangeAt e18 0 (bv O)):=by
   rw [←HOE.out]
   exact j7 (j7 RA0.out (by rw [HG.out.len];exact RA32.out)) (by rw [List.length_append,HG.out.len,HC.out];exact RA48.out)
  have THd:Hid _:=an THR.out BU19.out LTR.out
  go_wp2_with (first
   | (refine wpList_load_mid rfl 25 (.tmp 18) rfl (e18) 0 rfl (bv O) _ RO.out Tryz.underlying25 rfl (by rw [ae,HOL.out];exact ct) ?_)
   | (refine wpList_store_mid rfl 25 (.tmp 4) (.tmp 71) rfl (D+1) 0 (bv O).toArray rfl rfl (aK (HOL.out) (THd.out)) (aC (HOL.out) ct) (ar _) ?_;simp only [YN]))
  have qq:(W19.setCells (D+1) 0 (bv O)).rangeAt (D+1) 0 (bv O):=World.rangeAt_setCells_same _ _ _ _ (by rw [ae,HOL.out];exact THd.out)
  have hbl:Below w.heap.size w (W19.setCells (D+1) 0 (bv O)):=af (by rw [HD.out];omega) _ _ (BU.out.trans (BU19.out.mono BU.out.size))
  try simp only [Exit.inBlock,Exit.then]
  refine bodyPost_ret (v := .tuple #[.agg (bv O).toArray,.int .i64 0]) ?_ rfl ⟨by rw [HO2.out],hbl⟩
  exact au Tryz.results10 _ _ (D+1) 0 (bv O) _ _ rfl rfl qq Tryz.underlying25 rfl (by rw [ae,HOL.out];exact ct)
end Go.Proofs.YtajehiidpecknaaGreatDoor.Wi
