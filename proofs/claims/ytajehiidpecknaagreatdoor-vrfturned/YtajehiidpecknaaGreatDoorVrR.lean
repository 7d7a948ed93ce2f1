import Derived.Test.YtajehiidpecknaaGreatDoorVrL
import Derived.Test.YtajehiidpecknaaGreatDoorVrJ
set_option linter.all false
namespace Go.Proofs.YtajehiidpecknaaGreatDoor.Wi
open Go Go.RowKit
set_option maxRecDepth 100000
def vyC (a x I:List Int):Bool:=decide (chl a I (pG x) (df (pT x) (wd (pC x)) a) (d2 (pT x) I (wd (pC x)) (pG x))=pC x)
def vyO (a x:List Int):Option (List Int)→Int
 | none=>4
 | some I=>if vyC a x I=true then 0 else 3
def vyE (a p x:List Int):Int:=if rk a≠0∨sm a=true then 2 else if otE x≠0 then otE x else vyO a x (inq a p)
def vyV (a p x:List Int):List Int:=if vyE a p x=0 then otV x else List.replicate 64 0
theorem Od {a p x:List Int} (h:rk a≠0∨sm a=true):vyE a p x=2:=by unfold vyE;rw [if_pos h]
theorem MH {a p x:List Int} (h1:rk a=0) (h2:sm a=false):vyE a p x=if otE x≠0 then otE x else vyO a x (inq a p):=by
 unfold vyE;rw [if_neg (by rw [h1,h2];simp)]
theorem Je {a p x:List Int} {e:Int} (h:vyE a p x=e) (h0:e≠0):vyV a p x=List.replicate 64 0:=by unfold vyV;rw [if_neg (by rw [h];exact h0)]
theorem Jd {a p x:List Int} (h:vyE a p x=0):vyV a p x=otV x:=by unfold vyV;rw [if_pos h]
theorem Fg (a p x:List Int):(vyV a p x).length=64:=by unfold vyV;split;exact r7 _;exact jh
def NI (D b12 e15:Nat) (T BT X ky Xa u:List Int):Nat→Option Value
 | 0=>some (.agg (bv T).toArray)
 | 1=>some (.agg (bv BT).toArray)
 | 2=>some (.agg (bv X).toArray)
 | 3=>some (.agg (bv ky).toArray)
 | 4=>some (.agg (bv Xa).toArray)
 | 5=>some (.agg (bv u).toArray)
 | _=>none
def MW (b12 e15 e11:Nat) (T I TI X G XG v2:List Int):Nat→Option Value
 | 0=>some (.agg (bv T).toArray)
 | 1=>some (.agg (bv I).toArray)
 | 2=>some (.agg (bv TI).toArray)
 | 3=>some (.agg (bv X).toArray)
 | 4=>some (.agg (bv G).toArray)
 | 5=>some (.agg (bv XG).toArray)
 | 6=>some (.agg (bv v2).toArray)
 | _=>none
def N8 (D e11 b12 b6 b7:Nat) (ky I G u v2 Q C:List Int):Nat→Option Value
 | 0=>some (.agg (bv ky).toArray)
 | 1=>some (.agg (bv I).toArray)
 | 2=>some (.agg (bv G).toArray)
 | 3=>some (.agg (bv u).toArray)
 | 4=>some (.agg (bv v2).toArray)
 | 5=>some (.agg (bv Q).toArray)
 | 6=>some (.agg (bv C).toArray)
 | 7=>some (.bool (!decide (Q=C)))
 | _=>none
set_option maxHeartbeats 8000000 in
theorem yj (ky p x:List Int) (ha:L32 ky) (hp:Byt p) (hl:p.length≤140737488353000) (hx:x.length=80) (hxb:Byt x) (v:Value) (w:World) (hv:Sl w v p) (hg:Glo Ve.MA w) :
  Calls Tryz.prog 13 #[.agg (bv ky).toArray,v,.agg (bv x).toArray] w fun e w'=>e = .returned (.tuple #[.agg (bv (vyV ky p x)).toArray,.int .i64 (vyE ky p x)])∧Below w.heap.size w w':=by
 have HA:Hid (L32 ky):=ha
 have HXL:Hid (x.length=80):=hx
 have HVW:Hid (Sl w v p):=hv
 obtain ⟨rA,hrA⟩ : ∃ z,rk ky=z:=⟨_,rfl⟩
 obtain ⟨sA,hsA⟩ : ∃ z,sm ky=z:=⟨_,rfl⟩
 have HSM:Hid (∀ W,Glo Ve.MA W→Calls Tryz.prog 42 #[.agg (bv ky).toArray] W fun e w'=>e = .returned (.tuple #[.bool sA,.int .i64 rA])∧Below W.heap.size W w'):=fun W hw=>by rw [←hrA,←hsA];exact BH ha W (Ve.gp hw)
 obtain ⟨OV,hOV⟩ : ∃ z,otV x=z:=⟨_,rfl⟩
 obtain ⟨oe,hoe⟩ : ∃ z,otE x=z:=⟨_,rfl⟩
 have HOV:Hid (OV.length=64):=by rw [←hOV];exact r7 _
 have HOT:Hid (∀ W,Glo Ve.MA W→Calls Tryz.prog 11 #[.agg (bv x).toArray] W fun e w'=>e = .returned (.tuple #[.agg (bv OV).toArray,.int .i64 oe])∧Below W.heap.size W w'):=fun W hw=>by rw [←hOV,←hoe];exact xB x hx hxb W hw
 obtain ⟨o,ho⟩ : ∃ z,inq ky p=z:=⟨_,rfl⟩
 have HIL:Hid (L32 (gU o)):=by rw [←ho];exact kc _ _ 256
 have HPO:Hid (∀ W,Sl W v p→Glo Ve.MA W→Calls Tryz.prog 19 #[.agg (bv ky).toArray,v] W fun e w'=>e = .returned (.tuple #[.agg (bv (gU o)).toArray,.int .i64 (mA o)])∧Below W.heap.size W w'):=fun W h1 h2=>by rw [←ho];exact l9 ky p ha hp hl v W h1 h2
 obtain ⟨I,hI⟩ : ∃ z,gU o=z:=⟨_,rfl⟩
 obtain ⟨ek,hek⟩ : ∃ z,mA o=z:=⟨_,rfl⟩
 have HI:Hid (L32 I):=by rw [←hI];exact HIL.out
 have HIE:Hid (gU o=I):=hI
 have HEK:Hid (mA o=ek):=hek
 rw [hI,hek] at HPO
 obtain ⟨G,hG⟩ : ∃ z,pG x=z:=⟨_,rfl⟩
 obtain ⟨C,hC⟩ : ∃ z,pC x=z:=⟨_,rfl⟩
 obtain ⟨T,hT⟩ : ∃ z,pT x=z:=⟨_,rfl⟩
 have HG:Hid (L32 G):=by rw [←hG];exact L32.pG hx hxb
 have HT:Hid (L32 T):=by rw [←hT];exact L32.pT hx hxb
 have HC:Hid (C.length=16):=by rw [←hC];exact kY hx
 have HPR:Hid (∀ W,Glo Ve.MA W→Calls Tryz.prog 34 #[.agg (bv x).toArray] W fun e w'=>e = .returned (.tuple #[.agg (bv G).toArray,.agg (bv C).toArray,.agg (bv T).toArray])∧Below W.heap.size W w'):=fun W hw=>by rw [←hG,←hT,←hC];exact CI hx W hw
 obtain ⟨X,hX⟩ : ∃ z,wd C=z:=⟨_,rfl⟩
 have HXE:Hid (wd C=X):=hX
 have HX:Hid (L32 X):=by rw [←hX,←hC];exact L32.wd (kY hx) (xw hxb)
 obtain ⟨BT,hBT⟩ : ∃ z,Bs T=z:=⟨_,rfl⟩
 have HBTL:Hid (L32 BT):=by rw [←hBT];exact L32.bs _
 have HBT:Hid (∀ W,Glo Ve.MA W→Calls Tryz.prog 18 #[.agg (bv T).toArray] W fun e w'=>e = .returned (.agg (bv BT).toArray)∧Below W.heap.size W w'):=fun W hw=>by rw [←hBT];exact tG HT.out W (Ve.gp hw)
 obtain ⟨Xa,hXa⟩ : ∃ z,Ml X ky=z:=⟨_,rfl⟩
 have HXaL:Hid (L32 Xa):=by rw [←hXa];exact L32.ml _ _
 have HXA:Hid (∀ W,Glo Ve.MA W→Calls Tryz.prog 20 #[.agg (bv X).toArray,.agg (bv ky).toArray] W fun e w'=>e = .returned (.agg (bv Xa).toArray)∧Below W.heap.size W w'):=fun W hw=>by rw [←hXa];exact Ve.oa HX.out ha W hw
 obtain ⟨u,hu⟩ : ∃ z,Ad BT (Ng Xa)=z:=⟨_,rfl⟩
 have Hu:Hid (L32 u):=by rw [←hu];exact dq _
 have HLU:Hid (∀ W,Glo Ve.MA W→Calls Tryz.prog 43 #[.agg (bv BT).toArray,.agg (bv Xa).toArray] W fun e w'=>e = .returned (.agg (bv u).toArray)∧Below W.heap.size W w'):=fun W hw=>by rw [←hu];exact Ve.Ch HBTL.out HXaL.out W hw
 have HUD:Hid (df T X ky=u):=by show _=_;unfold df;rw [hBT,hXa,hu]
 have HZ64:Hid (∀ e,vyE ky p x=e→e≠0→vyV ky p x=List.replicate 64 0):=fun e h1 h2=>Je h1 h2
 have HEA:Hid (rA≠0∨sA=true→vyE ky p x=2):=by rw [←hrA,←hsA];exact Od
 have HEB:Hid (rA=0→sA=false→vyE ky p x=if oe≠0 then oe else vyO ky x o):=by rw [←hrA,←hsA,←hoe,←ho];exact MH
 have HOK:Hid (vyE ky p x=0→vyV ky p x=OV):=by rw [←hOV];exact Jd
 have HOE:Hid (oe=0∨oe=2):=by rw [←hoe];unfold otE;split;exact .inl rfl;exact .inr rfl
 have HVC:Hid (∀ I0,vyC ky x I0=decide (chl ky I0 G u (d2 T I0 X G)=C)):=fun I0=>by unfold vyC;rw [hG,hC,hT,hX,HUD.out]
 have hz:=bG
 obtain ⟨Z,hZ⟩ : ∃ Z,(bv (List.replicate 32 0)).toArray=Z:=⟨_,rfl⟩
 have hZs:Z.size=32:=by rw [←hZ];simp [bv]
 have HZS:Hid (Z.size=32):=hZs
 have HZE:Hid ((bv z32).toArray=Z):=hZ
 rw [hZ] at hz
 have hz5:=ni
 obtain ⟨Z5,hZ5⟩ : ∃ Z,(bv (List.replicate 16 0)).toArray=Z:=⟨_,rfl⟩
 have hZs5:Z5.size=16:=by rw [←hZ5];simp [bv]
 have HZ5:Hid (Z5.size=16):=hZs5
 rw [hZ5] at hz5
 obtain ⟨VV,hVV⟩ : ∃ z,vyV ky p x=z:=⟨_,rfl⟩
 obtain ⟨VE,hVE⟩ : ∃ z,vyE ky p x=z:=⟨_,rfl⟩
 rw [hVV,hVE]
 have hzr:=dZ
 obtain ⟨ZR,hZR⟩ : ∃ Z,(bv (List.replicate 64 0)).toArray=Z:=⟨_,rfl⟩
 have hZRs:ZR.size=64:=by rw [←hZR];simp [bv]
 have HZR:Hid (ZR.size=64):=hZRs
 have HZRE:Hid ((bv (List.replicate 64 0)).toArray=ZR):=hZR
 rw [hZR] at hzr
 obtain ⟨A0,hA0⟩ : ∃ A,(bv ky).toArray=A:=⟨_,rfl⟩
 rw [hA0]
 obtain ⟨A1,hA1⟩ : ∃ A,(bv x).toArray=A:=⟨_,rfl⟩
 rw [hA1]
 obtain ⟨U,hU⟩ : ∃ U,(((w.alloc (.cells A0 22)).alloc (.cells A1 25)).alloc (.cells ZR 29))=U:=⟨_,rfl⟩
 have sU:U.heap.size=w.heap.size+3:=by rw [←hU];simp
 have bU:Below w.heap.size w U:=by rw [←hU];exact ((((Below.refl _ w).alloc (by first | exact Nat.le_refl _ | (simp only [World.size_alloc];omega)) _).alloc (by first | exact Nat.le_refl _ | (simp only [World.size_alloc];omega)) _).alloc (by first | exact Nat.le_refl _ | (simp only [World.size_alloc];omega)) _)
 have r0:U.rangeAt (w.heap.size) 0 (bv ky):=fun j v hj=>by rw [Nat.zero_add,cell_of_row U _ j _ _ _ (show U.heap[w.heap.size]? = some (.cells A0 22 (0,0)) by rw [←hU];exact aV [.cells A0 22 (0,0),.cells A1 25 (0,0),.cells ZR 29 (0,0)] w.heap 0 _ rfl),←hA0,List.getElem?_toArray];exact hj
 have r1:U.rangeAt (w.heap.size+1) 0 (bv x):=fun j v hj=>by rw [Nat.zero_add,cell_of_row U _ j _ _ _ (show U.heap[w.heap.size+1]? = some (.cells A1 25 (0,0)) by rw [←hU];exact aV [.cells A0 22 (0,0),.cells A1 25 (0,0),.cells ZR 29 (0,0)] w.heap 1 _ rfl),←hA1,List.getElem?_toArray];exact hj
 have thr:U.there (w.heap.size+2) 0 64:=aO (show U.heap[w.heap.size+2]? = some (.cells ZR 29 (0,0)) by rw [←hU];exact aV [.cells A0 22 (0,0),.cells A1 25 (0,0),.cells ZR 29 (0,0)] w.heap 2 _ rfl) 0 64 (by omega)
 have BU:Hid (Below w.heap.size w U):=bU
 obtain ⟨D,hD⟩ : ∃ D,w.heap.size=D:=⟨_,rfl⟩
 have HD:Hid (w.heap.size=D):=hD
 rw [hD] at sU thr r0 r1
 have SU:Hid (U.heap.size=D+3):=sU
 have THR:Hid (U.there (D+2) 0 64):=thr
 have LTR:Hid (D+2<U.heap.size):=by show _<_;omega
 have RA:Hid (U.rangeAt (D) 0 (bv ky)):=r0
 have LA:Hid (D<U.heap.size):=by show _<_;omega
 have RP:Hid (U.rangeAt (D+1) 0 (bv x)):=r1
 have LP:Hid (D+1<U.heap.size):=by show _<_;omega
 clear sU bU thr hZR hZRs r0 r1 hA0 hA1
 have HGU:Hid (Glo Ve.MA U):=hg.below BU.out
 have HBZ:Hid (∀ W:World,(Instr.build 29 #[]).run Tryz.prog W = .ok (.agg ZR) W):=fun W=>by rw [←HZRE.out];exact kd W
 obtain ⟨E0,hE0⟩ : ∃ z,List.replicate 64 (0:Int)=z:=⟨_,rfl⟩
 have HE:Hid (E0.length=64):=by rw [←hE0];exact jh
 have HEE:Hid (ZR=(bv E0).toArray):=by rw [←hE0];exact HZRE.out.symm
 have HNO:Hid (∀ e,vyE ky p x=e→e≠0→vyV ky p x=E0):=by rw [←hE0];exact HZ64.out
 rw [HEE.out] at HBZ
 obtain ⟨a0,c0,hv0,-,-⟩:=id HVW.out
 obtain ⟨n0,hn0⟩ : ∃ n,p.length=n:=⟨_,rfl⟩
 rw [hn0] at hv0
 subst hv0
 subst hVV
 subst hVE
 clear hg ha hp hl hx hxb hv hrA hsA hOV hoe ho hI hek hG hC hT hX hBT hXa hu hZ hZs hZ5 hZs5 hE0 hn0 HIL HZ64 HZRE
 go_enter Tryz.func13,Tryz.ntmps13
 go_upto_region 1 with (fail)
 try rw [hU]
 try rw [hD]
 clear hU hD
 go_upto_region 2 with (first
  | (refine wpList_load_mid rfl 22 (.tmp 3) rfl (D) 0 rfl (bv ky) _ RA.out Tryz.underlying22 rfl (by rw [ae,HA.out.len];exact aF) ?_)
  | (go_at_call 42;refine (HSM.out U HGU.out).mono ?_;rintro e W1 ⟨rfl,g1⟩;have BW1:Hid (Below U.heap.size U W1):=g1;clear g1))
 have HG1:Hid (Glo Ve.MA W1):=aE HGU.out BW1.out
 by_cases h0:rA=0
 ·subst h0
  cases sA with
  | true =>
   have HF:Hid (vyE ky p x=2):=HEA.out (.inr rfl)
   have THd:Hid _:=an THR.out BW1.out LTR.out
   have HV2:Hid (vyV ky p x=E0):=HNO.out _ HF.out (by decide)
   go_wp2_with (first
    | (refine bm 29 rfl rfl _ (HBZ.out _) ?_)
    | (refine wpList_store_mid rfl 29 (.tmp 6) (.tmp 28) rfl (D+2) 0 (bv E0).toArray rfl rfl (aK (HE.out) (THd.out)) (aC (HE.out) aR) (ar _) ?_;simp only [YN]))
   have qq:(W1.setCells (D+2) 0 (bv E0)).rangeAt (D+2) 0 (bv E0):=World.rangeAt_setCells_same _ _ _ _ (by rw [ae,HE.out];exact THd.out)
   have hbl:Below w.heap.size w (W1.setCells (D+2) 0 (bv E0)):=af (by rw [HD.out];omega) _ _ (BU.out.trans (BW1.out.mono BU.out.size))
   try simp only [Exit.inBlock,Exit.then]
   refine bodyPost_ret (v := .tuple #[.agg (bv E0).toArray,.int .i64 2]) ?_ rfl ⟨by rw [HV2.out,HF.out],hbl⟩
   exact au Tryz.results13 _ _ (D+2) 0 (bv E0) _ _ rfl rfl qq Tryz.underlying29 rfl (by rw [ae,HE.out];exact aR)
  | false =>
   have HEB2:Hid (vyE ky p x=if oe≠0 then oe else vyO ky x o):=HEB.out rfl rfl
   have RA1:Hid (W1.rangeAt (D) 0 (bv ky)):=aa RA.out BW1.out LA.out
   have LA1:Hid (D<W1.heap.size):=YI LA.out BW1.out.size
   have RP1:Hid (W1.rangeAt (D+1) 0 (bv x)):=aa RP.out BW1.out LP.out
   have LP1:Hid (D+1<W1.heap.size):=YI LP.out BW1.out.size
   clear RA LA RP LP
   clear HEA HEB
   go_upto_region 5 with (first
    | (refine wpList_load_mid rfl 25 (.tmp 5) rfl (D+1) 0 rfl (bv x) _ RP1.out Tryz.underlying25 rfl (by rw [ae,HXL.out];exact ct) ?_)
    | (go_at_call 11;refine (HOT.out W1 HG1.out).mono ?_;rintro e W2 ⟨rfl,g1⟩;have BW2:Hid (Below W1.heap.size W1 W2):=g1;clear g1)
    | (refine wpList_store_mid rfl 29 (.tmp 10) (.tmp 32) rfl W2.heap.size 0 (bv OV).toArray rfl rfl (bK W2 (HOV.out) HZR.out) (aC (HOV.out) aR) (ar _) ?_;simp only [YN]))
   obtain ⟨e10,he10⟩ : ∃ n,W2.heap.size=n:=⟨_,rfl⟩
   obtain ⟨W3,hW3⟩ : ∃ W,(W2.alloc (.cells ZR 29)).setCells W2.heap.size 0 (bv OV)=W:=⟨_,rfl⟩
   obtain ⟨l1,l2,l3⟩:=aS (by rw [ae,HOV.out,HZR.out]) (by rw [ae,HOV.out];omega) hW3
   have BW3:Hid (Below W2.heap.size W2 W3):=l2
   have RO3:Hid (W3.rangeAt e10 0 (bv OV)):=by rw [←he10];exact l1
   have LO3:Hid (e10<W3.heap.size):=by rw [←he10];exact l3
   try rw [hW3]
   try rw [he10]
   clear l1 l2 l3 hW3 he10
   have B13:Hid (Below W1.heap.size W1 W3):=Below.tr' BW2.out BW3.out
   have RA3:Hid (W3.rangeAt (D) 0 (bv ky)):=aa RA1.out B13.out LA1.out
   have LA3:Hid (D<W3.heap.size):=YI LA1.out B13.out.size
   have RP3:Hid (W3.rangeAt (D+1) 0 (bv x)):=aa RP1.out B13.out LP1.out
   have LP3:Hid (D+1<W3.heap.size):=YI LP1.out B13.out.size
   clear RA1 LA1 RP1 LP1
   have BU3:Hid (Below U.heap.size U W3):=Below.tr' BW1.out B13.out
   have HG3:Hid (Glo Ve.MA W3):=aE HGU.out BU3.out
   have HV3:Hid (Sl W3 (.slice a0 n0 c0) p):=HVW.out.below (Below.tr' BU.out BU3.out) (Nat.le_refl _)
   clear BW2 BW3 B13 BW1 HG1
   rcases HOE.out with hoe | hoe
   ·subst hoe
    have HEB3:Hid (vyE ky p x=vyO ky x o):=by show _=_;rw [HEB2.out,if_neg (by decide)]
    clear HEB2
    go_upto_region 8 with (first
     | (refine wpList_load_mid rfl 22 (.tmp 3) rfl (D) 0 rfl (bv ky) _ RA3.out Tryz.underlying22 rfl (by rw [ae,HA.out.len];exact aF) ?_)
     | (go_at_call 19;refine (HPO.out W3 HV3.out HG3.out).mono ?_;rintro e W4 ⟨rfl,g1⟩;have BW4:Hid (Below W3.heap.size W3 W4):=g1;clear g1)
     | (refine wpList_store_mid rfl 22 (.tmp 11) (.tmp 42) rfl W4.heap.size 0 (bv I).toArray rfl rfl (bK W4 (HI.out.len) HZS.out) (aC (HI.out.len) aF) (ar _) ?_;simp only [YN]))
    obtain ⟨e11,he11⟩ : ∃ n,W4.heap.size=n:=⟨_,rfl⟩
    obtain ⟨W5,hW5⟩ : ∃ W,(W4.alloc (.cells Z 22)).setCells W4.heap.size 0 (bv I)=W:=⟨_,rfl⟩
    obtain ⟨l1,l2,l3⟩:=aS (by rw [ae,HI.out.len,HZS.out]) (by rw [ae,HI.out.len];omega) hW5
    have BW5:Hid (Below W4.heap.size W4 W5):=l2
    have RI5:Hid (W5.rangeAt e11 0 (bv I)):=by rw [←he11];exact l1
    have LI5:Hid (e11<W5.heap.size):=by rw [←he11];exact l3
    try rw [hW5]
    try rw [he11]
    clear l1 l2 l3 hW5 he11
    have B35:Hid (Below W3.heap.size W3 W5):=Below.tr' BW4.out BW5.out
    have RA5:Hid (W5.rangeAt (D) 0 (bv ky)):=aa RA3.out B35.out LA3.out
    have LA5:Hid (D<W5.heap.size):=YI LA3.out B35.out.size
    have RP5:Hid (W5.rangeAt (D+1) 0 (bv x)):=aa RP3.out B35.out LP3.out
    have LP5:Hid (D+1<W5.heap.size):=YI LP3.out B35.out.size
    have RO5:Hid (W5.rangeAt (e10) 0 (bv OV)):=aa RO3.out B35.out LO3.out
    have LO5:Hid (e10<W5.heap.size):=YI LO3.out B35.out.size
    clear RA3 LA3 RP3 LP3 RO3 LO3
    have BU5:Hid (Below U.heap.size U W5):=Below.tr' BU3.out B35.out
    have HG5:Hid (Glo Ve.MA W5):=aE HGU.out BU5.out
    clear BW4 BW5 B35 BU3 HG3 HV3
    cases o with
    | none =>
     obtain rfl:ek=4:=HEK.out.symm
     have HF:Hid (vyE ky p x=4):=HEB3.out
     have THd:Hid _:=an THR.out BU5.out LTR.out
     have HV2:Hid (vyV ky p x=E0):=HNO.out _ HF.out (by decide)
     go_wp2_with (first
      | (refine bm 29 rfl rfl _ (HBZ.out _) ?_)
      | (refine wpList_store_mid rfl 29 (.tmp 6) (.tmp 46) rfl (D+2) 0 (bv E0).toArray rfl rfl (aK (HE.out) (THd.out)) (aC (HE.out) aR) (ar _) ?_;simp only [YN]))
     have qq:(W5.setCells (D+2) 0 (bv E0)).rangeAt (D+2) 0 (bv E0):=World.rangeAt_setCells_same _ _ _ _ (by rw [ae,HE.out];exact THd.out)
     have hbl:Below w.heap.size w (W5.setCells (D+2) 0 (bv E0)):=af (by rw [HD.out];omega) _ _ (BU.out.trans (BU5.out.mono BU.out.size))
     try simp only [Exit.inBlock,Exit.then]
     refine bodyPost_ret (v := .tuple #[.agg (bv E0).toArray,.int .i64 4]) ?_ rfl ⟨by rw [HV2.out,HF.out],hbl⟩
     exact au Tryz.results13 _ _ (D+2) 0 (bv E0) _ _ rfl rfl qq Tryz.underlying29 rfl (by rw [ae,HE.out];exact aR)
    | some I0 =>
     obtain rfl:ek=0:=HEK.out.symm
     obtain rfl:I0=I:=HIE.out
     have HEB4:Hid (vyE ky p x=if vyC ky x I0=true then 0 else 3):=HEB3.out
     obtain ⟨TI,hTI⟩ : ∃ z,Ml T I0=z:=⟨_,rfl⟩
     have HTIL:Hid (L32 TI):=by rw [←hTI];exact L32.ml _ _
     have HTI:Hid (∀ W,Glo Ve.MA W→Calls Tryz.prog 20 #[.agg (bv T).toArray,.agg (bv I0).toArray] W fun e w'=>e = .returned (.agg (bv TI).toArray)∧Below W.heap.size W w'):=fun W hw=>by rw [←hTI];exact Ve.oa HT.out HI.out W hw
     obtain ⟨XG,hXG⟩ : ∃ z,Ml X G=z:=⟨_,rfl⟩
     have HXGL:Hid (L32 XG):=by rw [←hXG];exact L32.ml _ _
     have HXG:Hid (∀ W,Glo Ve.MA W→Calls Tryz.prog 20 #[.agg (bv X).toArray,.agg (bv G).toArray] W fun e w'=>e = .returned (.agg (bv XG).toArray)∧Below W.heap.size W w'):=fun W hw=>by rw [←hXG];exact Ve.oa HX.out HG.out W hw
     obtain ⟨v2,hv2⟩ : ∃ z,Ad TI (Ng XG)=z:=⟨_,rfl⟩
     have Hv2:Hid (L32 v2):=by rw [←hv2];exact dq _
     have HLV:Hid (∀ W,Glo Ve.MA W→Calls Tryz.prog 43 #[.agg (bv TI).toArray,.agg (bv XG).toArray] W fun e w'=>e = .returned (.agg (bv v2).toArray)∧Below W.heap.size W w'):=fun W hw=>by rw [←hv2];exact Ve.Ch HTIL.out HXGL.out W hw
     have hvd:d2 T I0 X G=v2:=by unfold d2;rw [hTI,hXG,hv2]
     obtain ⟨Q,hQ⟩ : ∃ z,chl ky I0 G u v2=z:=⟨_,rfl⟩
     have HQ:Hid (Q.length=16):=by rw [←hQ];exact kr _ _ _ _ _
     have HCH:Hid (∀ W,Glo Ve.MA W→Calls Tryz.prog 24 #[.agg (bv ky).toArray,.agg (bv I0).toArray,.agg (bv G).toArray,.agg (bv u).toArray,.agg (bv v2).toArray] W fun e w'=>e = .returned (.agg (bv Q).toArray)∧Below W.heap.size W w'):=fun W hw=>by rw [←hQ];exact jA _ _ _ _ _ HA.out HI.out HG.out Hu.out Hv2.out W hw
     have hvc:=HVC.out I0
     rw [hvd,hQ] at hvc
     have HEB5:Hid (vyE ky p x=if Q=C then 0 else 3):=by
      show _=_
      rw [HEB4.out,hvc]
      by_cases q:Q=C
      ·rw [if_pos q,if_pos (decide_eq_true q)]
      ·rw [if_neg q,if_neg (by rw [decide_eq_false q];decide)]
     clear hTI hXG hv2 hvd hQ hvc HEB3 HEB4 HVC HEK HIE HTIL HXGL
     go_upto_region 11 with (first
      | (refine wpList_load_mid rfl 25 (.tmp 5) rfl (D+1) 0 rfl (bv x) _ RP5.out Tryz.underlying25 rfl (by rw [ae,HXL.out];exact ct) ?_)
      | (go_at_call 34;refine (HPR.out W5 HG5.out).mono ?_;rintro e Wa ⟨rfl,g1⟩;have BWa:Hid (Below W5.heap.size W5 Wa):=g1;obtain ⟨V,hV⟩ : ∃ V,((Wa.alloc (.cells Z 22)).alloc (.cells Z5 47)).alloc (.cells Z 22)=V:=⟨_,rfl⟩;obtain ⟨a4,a5,a6,hXX⟩:=zh Wa HZS.out HZ5.out HZS.out HG.out.len HC.out HT.out.len hV;have A4:Hid _:=a4;have A5:Hid _:=a5;have A6:Hid _:=a6;clear a4 a5 a6;clear g1)
      | (refine wpList_store_mid rfl 22 (.tmp 12) (.tmp 51) rfl (Wa.heap.size) 0 (bv G).toArray rfl rfl (aK (HG.out.len) (A4.out)) (aC (HG.out.len) aF) (ar _) ?_;simp only [YN])
      | (refine wpList_store_mid rfl 47 (.tmp 13) (.tmp 52) rfl (Wa.heap.size+1) 0 (bv C).toArray rfl rfl (aK (HC.out) (A5.out)) (aC (HC.out) gX) (ar _) ?_;simp only [YN])
      | (refine wpList_store_mid rfl 22 (.tmp 14) (.tmp 53) rfl (Wa.heap.size+1+1) 0 (bv T).toArray rfl rfl (aK (HT.out.len) (A6.out)) (aC (HT.out.len) aF) (ar _) ?_;simp only [YN]))
     obtain ⟨b12,hb12⟩ : ∃ n,Wa.heap.size=n:=⟨_,rfl⟩
     obtain ⟨Wb,hWb⟩ : ∃ Y,((V.setCells Wa.heap.size 0 (bv G)).setCells (Wa.heap.size+1) 0 (bv C)).setCells (Wa.heap.size+1+1) 0 (bv T)=Y:=⟨_,rfl⟩
     obtain ⟨r4,r5,r6,bX,sX⟩:=hXX Wb hWb
     have BWb:Hid (Below Wa.heap.size Wa Wb):=bX
     rw [hb12] at r4 r5 r6 sX
     have RGb:Hid (Wb.rangeAt b12 0 (bv G)):=r4
     have LGb:Hid (b12<Wb.heap.size):=by show _<_;omega
     have RCb:Hid (Wb.rangeAt (b12+1) 0 (bv C)):=r5
     have LCb:Hid (b12+1<Wb.heap.size):=by show _<_;omega
     have RTb:Hid (Wb.rangeAt (b12+1+1) 0 (bv T)):=r6
     have LTb:Hid (b12+1+1<Wb.heap.size):=by show _<_;omega
     have B5b:Hid (Below W5.heap.size W5 Wb):=Below.tr' BWa.out BWb.out
     have BUb:Hid (Below U.heap.size U Wb):=Below.tr' BU5.out B5b.out
     have HGb:Hid (Glo Ve.MA Wb):=aE HGU.out BUb.out
     have RAb:Hid (Wb.rangeAt (D) 0 (bv ky)):=aa RA5.out B5b.out LA5.out
     have LAb:Hid (D<Wb.heap.size):=YI LA5.out B5b.out.size
     have ROb:Hid (Wb.rangeAt (e10) 0 (bv OV)):=aa RO5.out B5b.out LO5.out
     have LOb:Hid (e10<Wb.heap.size):=YI LO5.out B5b.out.size
     have RIb:Hid (Wb.rangeAt (e11) 0 (bv I0)):=aa RI5.out B5b.out LI5.out
     have LIb:Hid (e11<Wb.heap.size):=YI LI5.out B5b.out.size
     clear RA5 LA5 RO5 LO5 RI5 LI5
     try rw [hWb]
     try rw [hb12]
     clear r4 r5 r6 bX sX hXX hb12 hWb A4 A5 A6 hV BWa BWb B5b BU5 HG5 RP5 LP5
     go_upto_region 12 with (first
      | (refine wpList_load_mid rfl 47 (.tmp 13) rfl (b12+1) 0 rfl (bv C) _ RCb.out Tryz.underlying47 rfl (by rw [ae,HC.out];exact gX) ?_)
      | (go_at_call 26;refine (yO HXE.out HC.out Wb HGb.out).mono ?_;rintro e Wc ⟨rfl,g1⟩;have BWc:Hid (Below Wb.heap.size Wb Wc):=g1;clear g1)
      | (refine wpList_store_mid rfl 22 (.tmp 15) (.tmp 55) rfl Wc.heap.size 0 (bv X).toArray rfl rfl (bK Wc (HX.out.len) HZS.out) (aC (HX.out.len) aF) (ar _) ?_;simp only [YN]))
     obtain ⟨e15,he15⟩ : ∃ n,Wc.heap.size=n:=⟨_,rfl⟩
     obtain ⟨W6,hW6⟩ : ∃ W,(Wc.alloc (.cells Z 22)).setCells Wc.heap.size 0 (bv X)=W:=⟨_,rfl⟩
     obtain ⟨l1,l2,l3⟩:=aS (by rw [ae,HX.out.len,HZS.out]) (by rw [ae,HX.out.len];omega) hW6
     have BW6:Hid (Below Wc.heap.size Wc W6):=l2
     have RX6:Hid (W6.rangeAt e15 0 (bv X)):=by rw [←he15];exact l1
     have LX6:Hid (e15<W6.heap.size):=by rw [←he15];exact l3
     try rw [hW6]
     try rw [he15]
     clear l1 l2 l3 hW6 he15
     have Bb6:Hid (Below Wb.heap.size Wb W6):=Below.tr' BWc.out BW6.out
     have RA6:Hid (W6.rangeAt (D) 0 (bv ky)):=aa RAb.out Bb6.out LAb.out
     have LA6:Hid (D<W6.heap.size):=YI LAb.out Bb6.out.size
     have RO6:Hid (W6.rangeAt (e10) 0 (bv OV)):=aa ROb.out Bb6.out LOb.out
     have LO6:Hid (e10<W6.heap.size):=YI LOb.out Bb6.out.size
     have RI6:Hid (W6.rangeAt (e11) 0 (bv I0)):=aa RIb.out Bb6.out LIb.out
     have LI6:Hid (e11<W6.heap.size):=YI LIb.out Bb6.out.size
     have RG6:Hid (W6.rangeAt (b12) 0 (bv G)):=aa RGb.out Bb6.out LGb.out
     have LG6:Hid (b12<W6.heap.size):=YI LGb.out Bb6.out.size
     have RC6:Hid (W6.rangeAt (b12+1) 0 (bv C)):=aa RCb.out Bb6.out LCb.out
     have LC6:Hid (b12+1<W6.heap.size):=YI LCb.out Bb6.out.size
     have RT6:Hid (W6.rangeAt (b12+1+1) 0 (bv T)):=aa RTb.out Bb6.out LTb.out
     have LT6:Hid (b12+1+1<W6.heap.size):=YI LTb.out Bb6.out.size
     clear RAb LAb ROb LOb RIb LIb RGb LGb RCb LCb RTb LTb
     have BU6:Hid (Below U.heap.size U W6):=Below.tr' BUb.out Bb6.out
     have HG6:Hid (Glo Ve.MA W6):=aE HGU.out BU6.out
     clear BWc BW6 Bb6 BUb HGb
     refine RG.wp_rgn' (GI W6 (NI D b12 e15 T BT X ky Xa u) (fun _ _ _=>True) [(6,7,bv u,bv z32)]) (by kernel_rfl) (by kernel_rfl) GI.start ?_ ?_
     ·refine ⟨?_,?_,?_,?_,?_,?_,?_,?_,trivial⟩
      ·intro a W d V hI hd hpx hbk hf hp
       have hO':Below W6.heap.size W6 W:=hI.be
       have q14:a.eval (.tmp 14) = .pointer (some ⟨b12+1+1,0,none⟩):=hf 14 rfl
       exact RU.ob_op rfl (RU.wanted_none rfl) (wp_load_mid 22 (.tmp 14) rfl (b12+1+1) (0) q14 (bv T) _ (aa RT6.out hO' LT6.out) Tryz.underlying22 rfl (aD HT.out) ⟨_,rfl,hI.step (fun _ _ _ _ _ _=>trivial) (Below.refl _ _) 0 _ (by simp) (fun u hu=>by first | (cases hu;rfl) | cases hu) (trivial)⟩)
      ·intro a W d V hI hd hpx hbk hf hp
       have hO':Below W6.heap.size W6 W:=hI.be
       have e56:a.eval (.tmp 56) = .agg (bv T).toArray:=(hp 0 56 rfl).trans (hI.kn 0 _ rfl (hpx 0 rfl))
       have hno : ∀ x ∈ ([(6,7,bv u,bv z32)]:List Al),d x.2.1=false:=by simp only [List.mem_cons,List.not_mem_nil,or_false,forall_eq_or_imp,forall_eq];exact hbk 7 rfl
       refine RU.ob_call (g:=18) (args := #[.agg (bv T).toArray]) rfl (RU.wanted_none rfl) (fun ev he hc => ?_) ((HBT.out W (aE HG6.out hO')).mono ?_)
       ·have h56:=(he (.tmp 56)).trans e56
        have hfn:=he (.func 18)
        simp only [qF,qD,qE,execOp,YO,YP]
        simp only [resolve,invoke,Sem.run_bind,Sem.run_pure,Result.andThen_ok,List.map_toArray,List.map_cons,List.map_nil,h56,hfn,Act.eval,hc]
        rfl
       ·rintro e' W2 ⟨rfl,hb2⟩
        exact ⟨_,rfl,⟨_,rfl,hI.step (fun _ _ _ _ _ _=>trivial) hb2 1 _ (by simp) (fun u hu=>by first | (cases hu;rfl) | cases hu) (trivial)⟩⟩
      ·intro a W d V hI hd hpx hbk hf hp
       have hO':Below W6.heap.size W6 W:=hI.be
       have q15:a.eval (.tmp 15) = .pointer (some ⟨e15,0,none⟩):=hf 15 rfl
       exact RU.ob_op rfl (RU.wanted_none rfl) (wp_load_mid 22 (.tmp 15) rfl (e15) (0) q15 (bv X) _ (aa RX6.out hO' LX6.out) Tryz.underlying22 rfl (aD HX.out) ⟨_,rfl,hI.step (fun _ _ _ _ _ _=>trivial) (Below.refl _ _) 2 _ (by simp) (fun u hu=>by first | (cases hu;rfl) | cases hu) (trivial)⟩)
      ·intro a W d V hI hd hpx hbk hf hp
       have hO':Below W6.heap.size W6 W:=hI.be
       have q3:a.eval (.tmp 3) = .pointer (some ⟨D,0,none⟩):=hf 3 rfl
       exact RU.ob_op rfl (RU.wanted_none rfl) (wp_load_mid 22 (.tmp 3) rfl (D) (0) q3 (bv ky) _ (aa RA6.out hO' LA6.out) Tryz.underlying22 rfl (aD HA.out) ⟨_,rfl,hI.step (fun _ _ _ _ _ _=>trivial) (Below.refl _ _) 3 _ (by simp) (fun u hu=>by first | (cases hu;rfl) | cases hu) (trivial)⟩)
      ·intro a W d V hI hd hpx hbk hf hp
       have hO':Below W6.heap.size W6 W:=hI.be
       have e58:a.eval (.tmp 58) = .agg (bv X).toArray:=(hp 2 58 rfl).trans (hI.kn 2 _ rfl (hpx 2 rfl))
       have e59:a.eval (.tmp 59) = .agg (bv ky).toArray:=(hp 3 59 rfl).trans (hI.kn 3 _ rfl (hpx 3 rfl))
       have hno : ∀ x ∈ ([(6,7,bv u,bv z32)]:List Al),d x.2.1=false:=by simp only [List.mem_cons,List.not_mem_nil,or_false,forall_eq_or_imp,forall_eq];exact hbk 7 rfl
       refine RU.ob_call (g:=20) (args := #[.agg (bv X).toArray,.agg (bv ky).toArray]) rfl (RU.wanted_none rfl) (fun ev he hc => ?_) ((HXA.out W (aE HG6.out hO')).mono ?_)
       ·have h58:=(he (.tmp 58)).trans e58
        have h59:=(he (.tmp 59)).trans e59
        have hfn:=he (.func 20)
        simp only [qF,qD,qE,execOp,YO,YP]
        simp only [resolve,invoke,Sem.run_bind,Sem.run_pure,Result.andThen_ok,List.map_toArray,List.map_cons,List.map_nil,h58,h59,hfn,Act.eval,hc]
        rfl
       ·rintro e' W2 ⟨rfl,hb2⟩
        exact ⟨_,rfl,⟨_,rfl,hI.step (fun _ _ _ _ _ _=>trivial) hb2 4 _ (by simp) (fun u hu=>by first | (cases hu;rfl) | cases hu) (trivial)⟩⟩
      ·intro a W d V hI hd hpx hbk hf hp
       have hO':Below W6.heap.size W6 W:=hI.be
       have e57:a.eval (.tmp 57) = .agg (bv BT).toArray:=(hp 1 57 rfl).trans (hI.kn 1 _ rfl (hpx 1 rfl))
       have e60:a.eval (.tmp 60) = .agg (bv Xa).toArray:=(hp 4 60 rfl).trans (hI.kn 4 _ rfl (hpx 4 rfl))
       have hno : ∀ x ∈ ([(6,7,bv u,bv z32)]:List Al),d x.2.1=false:=by simp only [List.mem_cons,List.not_mem_nil,or_false,forall_eq_or_imp,forall_eq];exact hbk 7 rfl
       refine RU.ob_call (g:=43) (args := #[.agg (bv BT).toArray,.agg (bv Xa).toArray]) rfl (RU.wanted_none rfl) (fun ev he hc => ?_) ((HLU.out W (aE HG6.out hO')).mono ?_)
       ·have h57:=(he (.tmp 57)).trans e57
        have h60:=(he (.tmp 60)).trans e60
        have hfn:=he (.func 43)
        simp only [qF,qD,qE,execOp,YO,YP]
        simp only [resolve,invoke,Sem.run_bind,Sem.run_pure,Result.andThen_ok,List.map_toArray,List.map_cons,List.map_nil,h57,h60,hfn,Act.eval,hc]
        rfl
       ·rintro e' W2 ⟨rfl,hb2⟩
        exact ⟨_,rfl,⟨_,rfl,hI.step (fun _ _ _ _ _ _=>trivial) hb2 5 _ (by simp) (fun u hu=>by first | (cases hu;rfl) | cases hu) (trivial)⟩⟩
      ·intro a W d V hI hd hpx hbk hf hp
       have hO':Below W6.heap.size W6 W:=hI.be
       refine RU.ob_run (v := .pointer (some ⟨W.heap.size,0,none⟩)) (w':=W.alloc (.cells (bv z32).toArray 22)) rfl (RU.wanted_none rfl) (fun ev he hc => ?_) ⟨_,rfl,hI.alloc (fun _ _ _ _ _ _=>trivial) (6,7,bv u,bv z32) (by simp) 22 (hbk 7 rfl) (by simp) (by simp) rfl (fun _ _=>trivial)⟩
       simp only [qF,qD,qE,execOp]
       first | (go_simp;done) | (go_simp;rfl) | (go_simp;rw [HZE.out])
      ·intro a W d V hI hd hpx hbk hf hp
       have hO':Below W6.heap.size W6 W:=hI.be
       have d9:d 6=true:=hpx 6 rfl
       obtain ⟨b,hV,-,-,hth,-⟩:=hI.pt (6,7,bv u,bv z32) (by simp) d9
       have qp:a.eval (.tmp 16) = .pointer (some ⟨b,0,none⟩):=(hp 6 16 rfl).trans hV
       have qv:a.eval (.tmp 61) = .agg (bv u).toArray:=(hp 5 61 rfl).trans (hI.kn 5 _ rfl (hpx 5 rfl))
       exact RU.ob_op rfl (RU.wanted_none rfl) (wp_store_mid 22 (.tmp 16) (.tmp 61) rfl b 0 (bv u).toArray qp qv (by rw [List.size_toArray,(show (bv u).length=(bv z32).length by rw [ae,ae,Hu.out.len,cr.len])];exact hth) (by rw [List.size_toArray];exact aD Hu.out) (ar _) ⟨_,rfl,by simp only [YN];exact hI.store (6,7,bv u,bv z32) (by simp) d9 hV _ (by simp) (by simp) rfl (show (bv u).length=(bv z32).length by rw [ae,ae,Hu.out.len,cr.len]) (by simp)⟩)
     intro W7 dW7 VW7 hal hI
     have BW7:Hid (Below W6.heap.size W6 W7):=hI.be
     have hs0:VW7 0 = .agg (bv T).toArray:=hI.kn 0 _ rfl (hal 0 (by decide))
     have hs1:VW7 1 = .agg (bv BT).toArray:=hI.kn 1 _ rfl (hal 1 (by decide))
     have hs2:VW7 2 = .agg (bv X).toArray:=hI.kn 2 _ rfl (hal 2 (by decide))
     have hs3:VW7 3 = .agg (bv ky).toArray:=hI.kn 3 _ rfl (hal 3 (by decide))
     have hs4:VW7 4 = .agg (bv Xa).toArray:=hI.kn 4 _ rfl (hal 4 (by decide))
     have hs5:VW7 5 = .agg (bv u).toArray:=hI.kn 5 _ rfl (hal 5 (by decide))
     obtain ⟨b6,hs6,hb6,hl6,-,hr6⟩:=hI.pt (6,7,bv u,bv z32) (by simp) (hal 6 (by decide))
     have hs6:VW7 6 = .pointer (some ⟨b6,0,none⟩):=hs6
     have R6W7:Hid (W7.rangeAt b6 0 (bv u)):=by have h9:dW7 7=true:=hal 7 (by decide);simp only [h9,if_true] at hr6;exact hr6
     have L6W7:Hid (b6<W7.heap.size):=hl6
     have G6W7:Hid (W6.heap.size≤b6):=hb6
     simp only [RU.lay,Act.put,hs0,hs1,hs2,hs3,hs4,hs5,hs6]
     simp only [qA,qB,qC]
     clear hI hal hs0 hs1 hs2 hs3 hs4 hs5 hs6 hb6 hl6 hr6
     have RA7:Hid (W7.rangeAt (D) 0 (bv ky)):=aa RA6.out BW7.out LA6.out
     have LA7:Hid (D<W7.heap.size):=YI LA6.out BW7.out.size
     have RO7:Hid (W7.rangeAt (e10) 0 (bv OV)):=aa RO6.out BW7.out LO6.out
     have LO7:Hid (e10<W7.heap.size):=YI LO6.out BW7.out.size
     have RI7:Hid (W7.rangeAt (e11) 0 (bv I0)):=aa RI6.out BW7.out LI6.out
     have LI7:Hid (e11<W7.heap.size):=YI LI6.out BW7.out.size
     have RG7:Hid (W7.rangeAt (b12) 0 (bv G)):=aa RG6.out BW7.out LG6.out
     have LG7:Hid (b12<W7.heap.size):=YI LG6.out BW7.out.size
     have RC7:Hid (W7.rangeAt (b12+1) 0 (bv C)):=aa RC6.out BW7.out LC6.out
     have LC7:Hid (b12+1<W7.heap.size):=YI LC6.out BW7.out.size
     have RT7:Hid (W7.rangeAt (b12+1+1) 0 (bv T)):=aa RT6.out BW7.out LT6.out
     have LT7:Hid (b12+1+1<W7.heap.size):=YI LT6.out BW7.out.size
     have RX7:Hid (W7.rangeAt (e15) 0 (bv X)):=aa RX6.out BW7.out LX6.out
     have LX7:Hid (e15<W7.heap.size):=YI LX6.out BW7.out.size
     clear RA6 LA6 RO6 LO6 RI6 LI6 RG6 LG6 RC6 LC6 RT6 LT6 RX6 LX6
     have Ru7:Hid (W7.rangeAt b6 0 (bv u)):=R6W7
     have Lu7:Hid (b6<W7.heap.size):=L6W7
     have BU7:Hid (Below U.heap.size U W7):=Below.tr' BU6.out BW7.out
     have HG7:Hid (Glo Ve.MA W7):=aE HGU.out BU7.out
     clear BW7 BU6 HG6 R6W7 L6W7 G6W7
     go_upto_region 13 with (fail)
     refine RG.wp_rgn' (GI W7 (MW b12 e15 e11 T I0 TI X G XG v2) (fun _ _ _=>True) [(7,8,bv v2,bv z32)]) (by kernel_rfl) (by kernel_rfl) GI.start ?_ ?_
     ·refine ⟨?_,?_,?_,?_,?_,?_,?_,?_,?_,trivial⟩
      ·intro a W d V hI hd hpx hbk hf hp
       have hO':Below W7.heap.size W7 W:=hI.be
       have q14:a.eval (.tmp 14) = .pointer (some ⟨b12+1+1,0,none⟩):=hf 14 rfl
       exact RU.ob_op rfl (RU.wanted_none rfl) (wp_load_mid 22 (.tmp 14) rfl (b12+1+1) (0) q14 (bv T) _ (aa RT7.out hO' LT7.out) Tryz.underlying22 rfl (aD HT.out) ⟨_,rfl,hI.step (fun _ _ _ _ _ _=>trivial) (Below.refl _ _) 0 _ (by simp) (fun u hu=>by first | (cases hu;rfl) | cases hu) (trivial)⟩)
      ·intro a W d V hI hd hpx hbk hf hp
       have hO':Below W7.heap.size W7 W:=hI.be
       have q11:a.eval (.tmp 11) = .pointer (some ⟨e11,0,none⟩):=hf 11 rfl
       exact RU.ob_op rfl (RU.wanted_none rfl) (wp_load_mid 22 (.tmp 11) rfl (e11) (0) q11 (bv I0) _ (aa RI7.out hO' LI7.out) Tryz.underlying22 rfl (aD HI.out) ⟨_,rfl,hI.step (fun _ _ _ _ _ _=>trivial) (Below.refl _ _) 1 _ (by simp) (fun u hu=>by first | (cases hu;rfl) | cases hu) (trivial)⟩)
      ·intro a W d V hI hd hpx hbk hf hp
       have hO':Below W7.heap.size W7 W:=hI.be
       have e62:a.eval (.tmp 62) = .agg (bv T).toArray:=(hp 0 62 rfl).trans (hI.kn 0 _ rfl (hpx 0 rfl))
       have e63:a.eval (.tmp 63) = .agg (bv I0).toArray:=(hp 1 63 rfl).trans (hI.kn 1 _ rfl (hpx 1 rfl))
       have hno : ∀ x ∈ ([(7,8,bv v2,bv z32)]:List Al),d x.2.1=false:=by simp only [List.mem_cons,List.not_mem_nil,or_false,forall_eq_or_imp,forall_eq];exact hbk 8 rfl
       refine RU.ob_call (g:=20) (args := #[.agg (bv T).toArray,.agg (bv I0).toArray]) rfl (RU.wanted_none rfl) (fun ev he hc => ?_) ((HTI.out W (aE HG7.out hO')).mono ?_)
       ·have h62:=(he (.tmp 62)).trans e62
        have h63:=(he (.tmp 63)).trans e63
        have hfn:=he (.func 20)
        simp only [qF,qD,qE,execOp,YO,YP]
        simp only [resolve,invoke,Sem.run_bind,Sem.run_pure,Result.andThen_ok,List.map_toArray,List.map_cons,List.map_nil,h62,h63,hfn,Act.eval,hc]
        rfl
       ·rintro e' W2 ⟨rfl,hb2⟩
        exact ⟨_,rfl,⟨_,rfl,hI.step (fun _ _ _ _ _ _=>trivial) hb2 2 _ (by simp) (fun u hu=>by first | (cases hu;rfl) | cases hu) (trivial)⟩⟩
      ·intro a W d V hI hd hpx hbk hf hp
       have hO':Below W7.heap.size W7 W:=hI.be
       have q15:a.eval (.tmp 15) = .pointer (some ⟨e15,0,none⟩):=hf 15 rfl
       exact RU.ob_op rfl (RU.wanted_none rfl) (wp_load_mid 22 (.tmp 15) rfl (e15) (0) q15 (bv X) _ (aa RX7.out hO' LX7.out) Tryz.underlying22 rfl (aD HX.out) ⟨_,rfl,hI.step (fun _ _ _ _ _ _=>trivial) (Below.refl _ _) 3 _ (by simp) (fun u hu=>by first | (cases hu;rfl) | cases hu) (trivial)⟩)
      ·intro a W d V hI hd hpx hbk hf hp
       have hO':Below W7.heap.size W7 W:=hI.be
       have q12:a.eval (.tmp 12) = .pointer (some ⟨b12,0,none⟩):=hf 12 rfl
       exact RU.ob_op rfl (RU.wanted_none rfl) (wp_load_mid 22 (.tmp 12) rfl (b12) (0) q12 (bv G) _ (aa RG7.out hO' LG7.out) Tryz.underlying22 rfl (aD HG.out) ⟨_,rfl,hI.step (fun _ _ _ _ _ _=>trivial) (Below.refl _ _) 4 _ (by simp) (fun u hu=>by first | (cases hu;rfl) | cases hu) (trivial)⟩)
      ·intro a W d V hI hd hpx hbk hf hp
       have hO':Below W7.heap.size W7 W:=hI.be
       have e65:a.eval (.tmp 65) = .agg (bv X).toArray:=(hp 3 65 rfl).trans (hI.kn 3 _ rfl (hpx 3 rfl))
       have e66:a.eval (.tmp 66) = .agg (bv G).toArray:=(hp 4 66 rfl).trans (hI.kn 4 _ rfl (hpx 4 rfl))
       have hno : ∀ x ∈ ([(7,8,bv v2,bv z32)]:List Al),d x.2.1=false:=by simp only [List.mem_cons,List.not_mem_nil,or_false,forall_eq_or_imp,forall_eq];exact hbk 8 rfl
       refine RU.ob_call (g:=20) (args := #[.agg (bv X).toArray,.agg (bv G).toArray]) rfl (RU.wanted_none rfl) (fun ev he hc => ?_) ((HXG.out W (aE HG7.out hO')).mono ?_)
       ·have h65:=(he (.tmp 65)).trans e65
        have h66:=(he (.tmp 66)).trans e66
        have hfn:=he (.func 20)
        simp only [qF,qD,qE,execOp,YO,YP]
        simp only [resolve,invoke,Sem.run_bind,Sem.run_pure,Result.andThen_ok,List.map_toArray,List.map_cons,List.map_nil,h65,h66,hfn,Act.eval,hc]
        rfl
       ·rintro e' W2 ⟨rfl,hb2⟩
        exact ⟨_,rfl,⟨_,rfl,hI.step (fun _ _ _ _ _ _=>trivial) hb2 5 _ (by simp) (fun u hu=>by first | (cases hu;rfl) | cases hu) (trivial)⟩⟩
      ·intro a W d V hI hd hpx hbk hf hp
       have hO':Below W7.heap.size W7 W:=hI.be
       have e64:a.eval (.tmp 64) = .agg (bv TI).toArray:=(hp 2 64 rfl).trans (hI.kn 2 _ rfl (hpx 2 rfl))
       have e67:a.eval (.tmp 67) = .agg (bv XG).toArray:=(hp 5 67 rfl).trans (hI.kn 5 _ rfl (hpx 5 rfl))
       have hno : ∀ x ∈ ([(7,8,bv v2,bv z32)]:List Al),d x.2.1=false:=by simp only [List.mem_cons,List.not_mem_nil,or_false,forall_eq_or_imp,forall_eq];exact hbk 8 rfl
       refine RU.ob_call (g:=43) (args := #[.agg (bv TI).toArray,.agg (bv XG).toArray]) rfl (RU.wanted_none rfl) (fun ev he hc => ?_) ((HLV.out W (aE HG7.out hO')).mono ?_)
       ·have h64:=(he (.tmp 64)).trans e64
        have h67:=(he (.tmp 67)).trans e67
        have hfn:=he (.func 43)
        simp only [qF,qD,qE,execOp,YO,YP]
        simp only [resolve,invoke,Sem.run_bind,Sem.run_pure,Result.andThen_ok,List.map_toArray,List.map_cons,List.map_nil,h64,h67,hfn,Act.eval,hc]
        rfl
       ·rintro e' W2 ⟨rfl,hb2⟩
        exact ⟨_,rfl,⟨_,rfl,hI.step (fun _ _ _ _ _ _=>trivial) hb2 6 _ (by simp) (fun u hu=>by first | (cases hu;rfl) | cases hu) (trivial)⟩⟩
      ·intro a W d V hI hd hpx hbk hf hp
       have hO':Below W7.heap.size W7 W:=hI.be
       refine RU.ob_run (v := .pointer (some ⟨W.heap.size,0,none⟩)) (w':=W.alloc (.cells (bv z32).toArray 22)) rfl (RU.wanted_none rfl) (fun ev he hc => ?_) ⟨_,rfl,hI.alloc (fun _ _ _ _ _ _=>trivial) (7,8,bv v2,bv z32) (by simp) 22 (hbk 8 rfl) (by simp) (by simp) rfl (fun _ _=>trivial)⟩
       simp only [qF,qD,qE,execOp]
       first | (go_simp;done) | (go_simp;rfl) | (go_simp;rw [HZE.out])
      ·intro a W d V hI hd hpx hbk hf hp
       have hO':Below W7.heap.size W7 W:=hI.be
       have d9:d 7=true:=hpx 7 rfl
       obtain ⟨b,hV,-,-,hth,-⟩:=hI.pt (7,8,bv v2,bv z32) (by simp) d9
       have qp:a.eval (.tmp 17) = .pointer (some ⟨b,0,none⟩):=(hp 7 17 rfl).trans hV
       have qv:a.eval (.tmp 68) = .agg (bv v2).toArray:=(hp 6 68 rfl).trans (hI.kn 6 _ rfl (hpx 6 rfl))
       exact RU.ob_op rfl (RU.wanted_none rfl) (wp_store_mid 22 (.tmp 17) (.tmp 68) rfl b 0 (bv v2).toArray qp qv (by rw [List.size_toArray,(show (bv v2).length=(bv z32).length by rw [ae,ae,Hv2.out.len,cr.len])];exact hth) (by rw [List.size_toArray];exact aD Hv2.out) (ar _) ⟨_,rfl,by simp only [YN];exact hI.store (7,8,bv v2,bv z32) (by simp) d9 hV _ (by simp) (by simp) rfl (show (bv v2).length=(bv z32).length by rw [ae,ae,Hv2.out.len,cr.len]) (by simp)⟩)
     intro W8 dW8 VW8 hal hI
     have BW8:Hid (Below W7.heap.size W7 W8):=hI.be
     have hs0:VW8 0 = .agg (bv T).toArray:=hI.kn 0 _ rfl (hal 0 (by decide))
     have hs1:VW8 1 = .agg (bv I0).toArray:=hI.kn 1 _ rfl (hal 1 (by decide))
     have hs2:VW8 2 = .agg (bv TI).toArray:=hI.kn 2 _ rfl (hal 2 (by decide))
     have hs3:VW8 3 = .agg (bv X).toArray:=hI.kn 3 _ rfl (hal 3 (by decide))
     have hs4:VW8 4 = .agg (bv G).toArray:=hI.kn 4 _ rfl (hal 4 (by decide))
     have hs5:VW8 5 = .agg (bv XG).toArray:=hI.kn 5 _ rfl (hal 5 (by decide))
     have hs6:VW8 6 = .agg (bv v2).toArray:=hI.kn 6 _ rfl (hal 6 (by decide))
     obtain ⟨b7,hs7,hb7,hl7,-,hr7⟩:=hI.pt (7,8,bv v2,bv z32) (by simp) (hal 7 (by decide))
     have hs7:VW8 7 = .pointer (some ⟨b7,0,none⟩):=hs7
     have R7W8:Hid (W8.rangeAt b7 0 (bv v2)):=by have h9:dW8 8=true:=hal 8 (by decide);simp only [h9,if_true] at hr7;exact hr7
     have L7W8:Hid (b7<W8.heap.size):=hl7
     have G7W8:Hid (W7.heap.size≤b7):=hb7
     simp only [RU.lay,Act.put,hs0,hs1,hs2,hs3,hs4,hs5,hs6,hs7]
     simp only [qA,qB,qC]
     clear hI hal hs0 hs1 hs2 hs3 hs4 hs5 hs6 hs7 hb7 hl7 hr7
     have RA8:Hid (W8.rangeAt (D) 0 (bv ky)):=aa RA7.out BW8.out LA7.out
     have LA8:Hid (D<W8.heap.size):=YI LA7.out BW8.out.size
     have RO8:Hid (W8.rangeAt (e10) 0 (bv OV)):=aa RO7.out BW8.out LO7.out
     have LO8:Hid (e10<W8.heap.size):=YI LO7.out BW8.out.size
     have RI8:Hid (W8.rangeAt (e11) 0 (bv I0)):=aa RI7.out BW8.out LI7.out
     have LI8:Hid (e11<W8.heap.size):=YI LI7.out BW8.out.size
     have RG8:Hid (W8.rangeAt (b12) 0 (bv G)):=aa RG7.out BW8.out LG7.out
     have LG8:Hid (b12<W8.heap.size):=YI LG7.out BW8.out.size
     have RC8:Hid (W8.rangeAt (b12+1) 0 (bv C)):=aa RC7.out BW8.out LC7.out
     have LC8:Hid (b12+1<W8.heap.size):=YI LC7.out BW8.out.size
     have Ru8:Hid (W8.rangeAt (b6) 0 (bv u)):=aa Ru7.out BW8.out Lu7.out
     have Lu8:Hid (b6<W8.heap.size):=YI Lu7.out BW8.out.size
     clear RA7 LA7 RO7 LO7 RI7 LI7 RG7 LG7 RC7 LC7 Ru7 Lu7
     have Rv8:Hid (W8.rangeAt b7 0 (bv v2)):=R7W8
     have Lv8:Hid (b7<W8.heap.size):=L7W8
     have BU8:Hid (Below U.heap.size U W8):=Below.tr' BU7.out BW8.out
     have HG8:Hid (Glo Ve.MA W8):=aE HGU.out BU8.out
     clear BW8 BU7 HG7 R7W8 L7W8 G7W8
     go_upto_region 14 with (fail)
     refine RG.wp_rgn' (GI W8 (N8 D e11 b12 b6 b7 ky I0 G u v2 Q C) (fun _ _ _=>True) []) (by kernel_rfl) (by kernel_rfl) GI.start ?_ ?_
     ·refine ⟨?_,?_,?_,?_,?_,?_,?_,?_,trivial⟩
      ·intro a W d V hI hd hpx hbk hf hp
       have hO':Below W8.heap.size W8 W:=hI.be
       have q3:a.eval (.tmp 3) = .pointer (some ⟨D,0,none⟩):=hf 3 rfl
       exact RU.ob_op rfl (RU.wanted_none rfl) (wp_load_mid 22 (.tmp 3) rfl (D) (0) q3 (bv ky) _ (aa RA8.out hO' LA8.out) Tryz.underlying22 rfl (aD HA.out) ⟨_,rfl,hI.step (fun _ _ _ _ _ _=>trivial) (Below.refl _ _) 0 _ (by simp) (fun u hu=>by first | (cases hu;rfl) | cases hu) (trivial)⟩)
      ·intro a W d V hI hd hpx hbk hf hp
       have hO':Below W8.heap.size W8 W:=hI.be
       have q11:a.eval (.tmp 11) = .pointer (some ⟨e11,0,none⟩):=hf 11 rfl
       exact RU.ob_op rfl (RU.wanted_none rfl) (wp_load_mid 22 (.tmp 11) rfl (e11) (0) q11 (bv I0) _ (aa RI8.out hO' LI8.out) Tryz.underlying22 rfl (aD HI.out) ⟨_,rfl,hI.step (fun _ _ _ _ _ _=>trivial) (Below.refl _ _) 1 _ (by simp) (fun u hu=>by first | (cases hu;rfl) | cases hu) (trivial)⟩)
      ·intro a W d V hI hd hpx hbk hf hp
       have hO':Below W8.heap.size W8 W:=hI.be
       have q12:a.eval (.tmp 12) = .pointer (some ⟨b12,0,none⟩):=hf 12 rfl
       exact RU.ob_op rfl (RU.wanted_none rfl) (wp_load_mid 22 (.tmp 12) rfl (b12) (0) q12 (bv G) _ (aa RG8.out hO' LG8.out) Tryz.underlying22 rfl (aD HG.out) ⟨_,rfl,hI.step (fun _ _ _ _ _ _=>trivial) (Below.refl _ _) 2 _ (by simp) (fun u hu=>by first | (cases hu;rfl) | cases hu) (trivial)⟩)
      ·intro a W d V hI hd hpx hbk hf hp
       have hO':Below W8.heap.size W8 W:=hI.be
       have q16:a.eval (.tmp 16) = .pointer (some ⟨b6,0,none⟩):=hf 16 rfl
       exact RU.ob_op rfl (RU.wanted_none rfl) (wp_load_mid 22 (.tmp 16) rfl (b6) (0) q16 (bv u) _ (aa Ru8.out hO' Lu8.out) Tryz.underlying22 rfl (aD Hu.out) ⟨_,rfl,hI.step (fun _ _ _ _ _ _=>trivial) (Below.refl _ _) 3 _ (by simp) (fun u hu=>by first | (cases hu;rfl) | cases hu) (trivial)⟩)
      ·intro a W d V hI hd hpx hbk hf hp
       have hO':Below W8.heap.size W8 W:=hI.be
       have q17:a.eval (.tmp 17) = .pointer (some ⟨b7,0,none⟩):=hf 17 rfl
       exact RU.ob_op rfl (RU.wanted_none rfl) (wp_load_mid 22 (.tmp 17) rfl (b7) (0) q17 (bv v2) _ (aa Rv8.out hO' Lv8.out) Tryz.underlying22 rfl (aD Hv2.out) ⟨_,rfl,hI.step (fun _ _ _ _ _ _=>trivial) (Below.refl _ _) 4 _ (by simp) (fun u hu=>by first | (cases hu;rfl) | cases hu) (trivial)⟩)
      ·intro a W d V hI hd hpx hbk hf hp
       have hO':Below W8.heap.size W8 W:=hI.be
       have e69:a.eval (.tmp 69) = .agg (bv ky).toArray:=(hp 0 69 rfl).trans (hI.kn 0 _ rfl (hpx 0 rfl))
       have e70:a.eval (.tmp 70) = .agg (bv I0).toArray:=(hp 1 70 rfl).trans (hI.kn 1 _ rfl (hpx 1 rfl))
       have e71:a.eval (.tmp 71) = .agg (bv G).toArray:=(hp 2 71 rfl).trans (hI.kn 2 _ rfl (hpx 2 rfl))
       have e72:a.eval (.tmp 72) = .agg (bv u).toArray:=(hp 3 72 rfl).trans (hI.kn 3 _ rfl (hpx 3 rfl))
       have e73:a.eval (.tmp 73) = .agg (bv v2).toArray:=(hp 4 73 rfl).trans (hI.kn 4 _ rfl (hpx 4 rfl))
       have hno : ∀ x ∈ ([]:List Al),d x.2.1=false:=by simp
       refine RU.ob_call (g:=24) (args := #[.agg (bv ky).toArray,.agg (bv I0).toArray,.agg (bv G).toArray,.agg (bv u).toArray,.agg (bv v2).toArray]) rfl (RU.wanted_none rfl) (fun ev he hc => ?_) ((HCH.out W (aE HG8.out hO')).mono ?_)
       ·have h69:=(he (.tmp 69)).trans e69
        have h70:=(he (.tmp 70)).trans e70
        have h71:=(he (.tmp 71)).trans e71
        have h72:=(he (.tmp 72)).trans e72
        have h73:=(he (.tmp 73)).trans e73
        have hfn:=he (.func 24)
        simp only [qF,qD,qE,execOp,YO,YP]
        simp only [resolve,invoke,Sem.run_bind,Sem.run_pure,Result.andThen_ok,List.map_toArray,List.map_cons,List.map_nil,h69,h70,h71,h72,h73,hfn,Act.eval,hc]
        rfl
       ·rintro e' W2 ⟨rfl,hb2⟩
        exact ⟨_,rfl,⟨_,rfl,hI.step (fun _ _ _ _ _ _=>trivial) hb2 5 _ (by simp) (fun u hu=>by first | (cases hu;rfl) | cases hu) (trivial)⟩⟩
      ·intro a W d V hI hd hpx hbk hf hp
       have hO':Below W8.heap.size W8 W:=hI.be
       have q13:a.eval (.tmp 13) = .pointer (some ⟨b12+1,0,none⟩):=hf 13 rfl
       exact RU.ob_op rfl (RU.wanted_none rfl) (wp_load_mid 47 (.tmp 13) rfl (b12+1) (0) q13 (bv C) _ (aa RC8.out hO' LC8.out) Tryz.underlying47 rfl (iJ HC.out gX) ⟨_,rfl,hI.step (fun _ _ _ _ _ _=>trivial) (Below.refl _ _) 6 _ (by simp) (fun u hu=>by first | (cases hu;rfl) | cases hu) (trivial)⟩)
      ·intro a W d V hI hd hpx hbk hf hp
       have hO':Below W8.heap.size W8 W:=hI.be
       refine RU.ob_val (v := .bool (!decide (Q=C))) rfl (RU.wanted_none rfl) (fun ev he hc => ?_) ⟨_,rfl,hI.step (fun _ _ _ _ _ _=>trivial) (Below.refl _ _) 7 _ (by simp) (fun u hu=>by first | (cases hu;rfl) | cases hu) (trivial)⟩
       have q74:ev (.tmp 74) = .agg (bv Q).toArray:=(he (.tmp 74)).trans ((hp 5 74 rfl).trans (hI.kn 5 _ rfl (hpx 5 rfl)))
       have q75:ev (.tmp 75) = .agg (bv C).toArray:=(he (.tmp 75)).trans ((hp 6 75 rfl).trans (hI.kn 6 _ rfl (hpx 6 rfl)))
       simp only [qF,qD,qE,execOp,YO,YP];rw [q74,q75]
       simp only [Sem.run_bind,Lm,Pz Tryz.underlying47 HQ.out HC.out,Result.andThen_ok,Sem.run_pure]
     intro W9 dW9 VW9 hal hI
     have BW9:Hid (Below W8.heap.size W8 W9):=hI.be
     have hs0:VW9 0 = .agg (bv ky).toArray:=hI.kn 0 _ rfl (hal 0 (by decide))
     have hs1:VW9 1 = .agg (bv I0).toArray:=hI.kn 1 _ rfl (hal 1 (by decide))
     have hs2:VW9 2 = .agg (bv G).toArray:=hI.kn 2 _ rfl (hal 2 (by decide))
     have hs3:VW9 3 = .agg (bv u).toArray:=hI.kn 3 _ rfl (hal 3 (by decide))
     have hs4:VW9 4 = .agg (bv v2).toArray:=hI.kn 4 _ rfl (hal 4 (by decide))
     have hs5:VW9 5 = .agg (bv Q).toArray:=hI.kn 5 _ rfl (hal 5 (by decide))
     have hs6:VW9 6 = .agg (bv C).toArray:=hI.kn 6 _ rfl (hal 6 (by decide))
     have hs7:VW9 7 = .bool (!decide (Q=C)):=hI.kn 7 _ rfl (hal 7 (by decide))
     simp only [RU.lay,Act.put,hs0,hs1,hs2,hs3,hs4,hs5,hs6,hs7]
     simp only [qA,qB,qC]
     clear hI hal hs0 hs1 hs2 hs3 hs4 hs5 hs6 hs7
     have RO9:Hid (W9.rangeAt (e10) 0 (bv OV)):=aa RO8.out BW9.out LO8.out
     have LO9:Hid (e10<W9.heap.size):=YI LO8.out BW9.out.size
     clear RO8 LO8
     have BU9:Hid (Below U.heap.size U W9):=Below.tr' BU8.out BW9.out
     clear BU8 BW9 HG8
     by_cases hq:Q=C
     ·rw [decide_eq_true hq]
      have HF:Hid (vyE ky p x=0):=by show _=_;rw [HEB5.out,if_pos hq]
      have HV2:Hid (vyV ky p x=OV):=HOK.out HF.out
      have THd:Hid _:=an THR.out BU9.out LTR.out
      clear hq HEB5
      go_wp2_with (first
       | (refine wpList_load_mid rfl 29 (.tmp 10) rfl (e10) 0 rfl (bv OV) _ RO9.out Tryz.underlying29 rfl (by rw [ae,HOV.out];exact aR) ?_)
       | (refine wpList_store_mid rfl 29 (.tmp 6) (.tmp 78) rfl (D+2) 0 (bv OV).toArray rfl rfl (aK (HOV.out) (THd.out)) (aC (HOV.out) aR) (ar _) ?_;simp only [YN]))
      have qq:(W9.setCells (D+2) 0 (bv OV)).rangeAt (D+2) 0 (bv OV):=World.rangeAt_setCells_same _ _ _ _ (by rw [ae,HOV.out];exact THd.out)
      have hbl:Below w.heap.size w (W9.setCells (D+2) 0 (bv OV)):=af (by rw [HD.out];omega) _ _ (BU.out.trans (BU9.out.mono BU.out.size))
      try simp only [Exit.inBlock,Exit.then]
      refine bodyPost_ret (v := .tuple #[.agg (bv OV).toArray,.int .i64 0]) ?_ rfl ⟨by rw [HV2.out,HF.out],hbl⟩
      exact au Tryz.results13 _ _ (D+2) 0 (bv OV) _ _ rfl rfl qq Tryz.underlying29 rfl (by rw [ae,HOV.out];exact aR)
     ·rw [decide_eq_false hq]
      have HF:Hid (vyE ky p x=3):=by show _=_;rw [HEB5.out,if_neg hq]
      clear hq HEB5
      have THd:Hid _:=an THR.out BU9.out LTR.out
      have HV2:Hid (vyV ky p x=E0):=HNO.out _ HF.out (by decide)
      go_wp2_with (first
       | (refine bm 29 rfl rfl _ (HBZ.out _) ?_)
       | (refine wpList_store_mid rfl 29 (.tmp 6) (.tmp 77) rfl (D+2) 0 (bv E0).toArray rfl rfl (aK (HE.out) (THd.out)) (aC (HE.out) aR) (ar _) ?_;simp only [YN]))
      have qq:(W9.setCells (D+2) 0 (bv E0)).rangeAt (D+2) 0 (bv E0):=World.rangeAt_setCells_same _ _ _ _ (by rw [ae,HE.out];exact THd.out)
      have hbl:Below w.heap.size w (W9.setCells (D+2) 0 (bv E0)):=af (by rw [HD.out];omega) _ _ (BU.out.trans (BU9.out.mono BU.out.size))
      try simp only [Exit.inBlock,Exit.then]
      refine bodyPost_ret (v := .tuple #[.agg (bv E0).toArray,.int .i64 3]) ?_ rfl ⟨by rw [HV2.out,HF.out],hbl⟩
      exact au Tryz.results13 _ _ (D+2) 0 (bv E0) _ _ rfl rfl qq Tryz.underlying29 rfl (by rw [ae,HE.out];exact aR)
   ·subst hoe
    have HF:Hid (vyE ky p x=2):=by show _=_;rw [HEB2.out,if_pos (by decide)]
    clear HEB2
    have THd:Hid _:=an THR.out BU3.out LTR.out
    have HV2:Hid (vyV ky p x=E0):=HNO.out _ HF.out (by decide)
    go_wp2_with (first
     | (refine bm 29 rfl rfl _ (HBZ.out _) ?_)
     | (refine wpList_store_mid rfl 29 (.tmp 6) (.tmp 36) rfl (D+2) 0 (bv E0).toArray rfl rfl (aK (HE.out) (THd.out)) (aC (HE.out) aR) (ar _) ?_;simp only [YN]))
    have qq:(W3.setCells (D+2) 0 (bv E0)).rangeAt (D+2) 0 (bv E0):=World.rangeAt_setCells_same _ _ _ _ (by rw [ae,HE.out];exact THd.out)
    have hbl:Below w.heap.size w (W3.setCells (D+2) 0 (bv E0)):=af (by rw [HD.out];omega) _ _ (BU.out.trans (BU3.out.mono BU.out.size))
    try simp only [Exit.inBlock,Exit.then]
    refine bodyPost_ret (v := .tuple #[.agg (bv E0).toArray,.int .i64 2]) ?_ rfl ⟨by rw [HV2.out,HF.out],hbl⟩
    exact au Tryz.results13 _ _ (D+2) 0 (bv E0) _ _ rfl rfl qq Tryz.underlying29 rfl (by rw [ae,HE.out];exact aR)
 ·have HF:Hid (vyE ky p x=2):=HEA.out (.inl h0)
  have THd:Hid _:=an THR.out BW1.out LTR.out
  have HV2:Hid (vyV ky p x=E0):=HNO.out _ HF.out (by decide)
  go_wp2_with (first
   | (refine bm 29 rfl rfl _ (HBZ.out _) ?_)
   | (refine wpList_store_mid rfl 29 (.tmp 6) (.tmp 28) rfl (D+2) 0 (bv E0).toArray rfl rfl (aK (HE.out) (THd.out)) (aC (HE.out) aR) (ar _) ?_;simp only [YN]))
  have qq:(W1.setCells (D+2) 0 (bv E0)).rangeAt (D+2) 0 (bv E0):=World.rangeAt_setCells_same _ _ _ _ (by rw [ae,HE.out];exact THd.out)
  have hbl:Below w.heap.size w (W1.setCells (D+2) 0 (bv E0)):=af (by rw [HD.out];omega) _ _ (BU.out.trans (BW1.out.mono BU.out.size))
  try simp only [Exit.inBlock,Exit.then]
  refine bodyPost_ret (v := .tuple #[.agg (bv E0).toArray,.int .i64 2]) ?_ rfl ⟨by rw [HV2.out,HF.out],hbl⟩
  exact au Tryz.results13 _ _ (D+2) 0 (bv E0) _ _ rfl rfl qq Tryz.underlying29 rfl (by rw [ae,HE.out];exact aR)
end Go.Proofs.YtajehiidpecknaaGreatDoor.Wi
