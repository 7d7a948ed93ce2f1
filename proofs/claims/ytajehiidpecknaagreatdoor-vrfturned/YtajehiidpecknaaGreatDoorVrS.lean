import Derived.Test.YtajehiidpecknaaGreatDoorVrN
import Derived.Test.YtajehiidpecknaaGreatDoorVrR
set_option linter.all false
namespace Go.Proofs.YtajehiidpecknaaGreatDoor.Wi
open Go Go.RowKit
set_option maxRecDepth 100000
theorem Gn (w:World):(zeroValue 70).run Tryz.prog w = .ok (.agg (List.replicate 16 (Value.int .u64 0)).toArray) w:=by kernel_rfl
theorem fN:(Tryz.prog.info? 70).map (·.size)=some 16:=by kernel_rfl
theorem ng (p:P4):(q16 p).length=16:=rfl
theorem nk (p:P4):(q16 p).toArray.all (·.oneCell')=true:=by kernel_rfl
theorem Dd {a:List Int} (h:rk a=0):a8 (le a)=true:=by
 cases hk:a8 (le a) with
 | true=>rfl
 | false =>
  unfold rk at h
  rw [dw hk] at h
  cases h
theorem Ov {b:List Int} (hb:L32 b) (h:rk b=0):a8 (le (Cl b))=true:=by
 obtain ⟨P,hP,-⟩:=ft (cU hb) (Dd h)
 rw [Cl,jx (su _),←hP,rO]
 exact fV _
theorem En (x p:List Int) (n:Nat):inp x p (n+1)=if tg x p (255 - (n:Int))=true then some (Cl (tb x p (255 - (n:Int)))) else inp x p n:=rfl
theorem MI {x p:List Int} {c:Int} (h:tg x p c=true):a8 (le (Cl (tb x p c)))=true:=by
 unfold tg at h
 have k:=(of_decide_eq_true h).1
 exact Ov (L32.tb x p c) k
theorem KP (x p I:List Int) (n:Nat):inp x p n=some I→a8 (le I)=true:=by
 induction n with
 | zero=>intro h;rw [inp] at h;exact absurd h (by simp)
 | succ n ih =>
  intro h
  rw [En] at h
  generalize hc:(255:Int) - (n:Int)=c at h
  by_cases q:tg x p c=true
  ·rw [if_pos q] at h
   have e:=Option.some.inj h
   rw [←e]
   exact MI q
  ·rw [if_neg q] at h
   exact ih h
theorem KJ {x:List Int} (h:otE x=0):rk (pG x)=0∧cn (pT x)=true:=by
 unfold otE at h
 split at h
 ·assumption
 ·cases h
theorem zE {p:List Int} (hp:L32 p) {C:List Value} {b:Bool} (hC:q16 (dqP (le p))=C) (hb:a8 (le p)=b) (w:World):Calls Tryz.prog 45 #[.agg (bv p).toArray] w fun e w'=>e = .returned (.tuple #[.agg C.toArray,.bool b])∧Below w.heap.size w w':=by subst hC;subst hb;exact LR hp w
theorem yG {n:List Int} (hn:L32 n) {p q:P4} (hp:p.ok) {C:List Value} (hC:q16 p=C) (hq:dM (le n) p=q) (w:World):Calls Tryz.prog 49 #[.agg (bv n).toArray,.agg C.toArray] w fun e w'=>e = .returned (qv q)∧Below w.heap.size w w':=by subst hC;subst hq;exact Db hn hp w
def Ma (b14 e17 e23:Nat) (T X u:List Int) (CB CA:List Value) (PS PK PM PD:P4):Nat→Option Value
 | 0=>some (.agg (bv T).toArray)
 | 1=>some (.agg CB.toArray)
 | 2=>some (qv PS)
 | 3=>some (.agg (bv X).toArray)
 | 4=>some (.agg CA.toArray)
 | 5=>some (qv PK)
 | 6=>some (qv PM)
 | 7=>some (qv PD)
 | 8=>some (.agg (bv u).toArray)
 | _=>none
def MQ (b14 e19 e21:Nat) (T X v2:List Int) (CH CG:List Value) (QS QK QM QD:P4):Nat→Option Value
 | 0=>some (.agg (bv T).toArray)
 | 1=>some (.agg CH.toArray)
 | 2=>some (qv QS)
 | 3=>some (.agg (bv X).toArray)
 | 4=>some (.agg CG.toArray)
 | 5=>some (qv QK)
 | 6=>some (qv QM)
 | 7=>some (qv QD)
 | 8=>some (.agg (bv v2).toArray)
 | _=>none
def Nb (D e12 b14 b9 b9i:Nat) (ky I G u v2 Q X:List Int):Nat→Option Value
 | 0=>some (.agg (bv ky).toArray)
 | 1=>some (.agg (bv I).toArray)
 | 2=>some (.agg (bv G).toArray)
 | 3=>some (.agg (bv u).toArray)
 | 4=>some (.agg (bv v2).toArray)
 | 5=>some (.agg (bv Q).toArray)
 | 6=>some (.agg (bv X).toArray)
 | 7=>some (.bool (!decide (Q=X)))
 | _=>none
set_option maxHeartbeats 16000000 in
theorem uH (ky p x:List Int) (ha:L32 ky) (hp:Byt p) (hl:p.length≤140737488353000) (hx:x.length=80) (hxb:Byt x) (v:Value) (w:World) (hv:Sl w v p) (hg:Glo Ve.MA w) :
  Calls Tryz.prog 14 #[.agg (bv ky).toArray,v,.agg (bv x).toArray] w fun e w'=>e = .returned (.tuple #[.agg (bv (vyV ky p x)).toArray,.int .i64 (vyE ky p x)])∧Below w.heap.size w w':=by
 have HA:Hid (L32 ky):=ha
 have HXL:Hid (x.length=80):=hx
 have HVW:Hid (Sl w v p):=hv
 obtain ⟨rA,hrA⟩ : ∃ z,rk ky=z:=⟨_,rfl⟩
 obtain ⟨sA,hsA⟩ : ∃ z,sm ky=z:=⟨_,rfl⟩
 have HSM:Hid (∀ W,Calls Tryz.prog 44 #[.agg (bv ky).toArray] W fun e w'=>e = .returned (.tuple #[.bool sA,.int .i64 rA])∧Below W.heap.size W w'):=fun W=>by rw [←hrA,←hsA];exact z7 ha W
 obtain ⟨OV,hOV⟩ : ∃ z,otV x=z:=⟨_,rfl⟩
 obtain ⟨oe,hoe⟩ : ∃ z,otE x=z:=⟨_,rfl⟩
 have HOV:Hid (OV.length=64):=by rw [←hOV];exact r7 _
 have HOT:Hid (∀ W,Glo Ve.MA W→Calls Tryz.prog 12 #[.agg (bv x).toArray] W fun e w'=>e = .returned (.tuple #[.agg (bv OV).toArray,.int .i64 oe])∧Below W.heap.size W w'):=fun W hw=>by rw [←hOV,←hoe];exact uN x hx hxb W hw
 obtain ⟨o,ho⟩ : ∃ z,inq ky p=z:=⟨_,rfl⟩
 have HIL:Hid (L32 (gU o)):=by rw [←ho];exact kc _ _ 256
 have HIR:Hid (∀ I,o=some I→a8 (le I)=true):=fun I h=>KP ky p I 256 (ho.trans h)
 have HPO:Hid (∀ W,Sl W v p→Calls Tryz.prog 29 #[.agg (bv ky).toArray,v] W fun e w'=>e = .returned (.tuple #[.agg (bv (gU o)).toArray,.bool (vX o)])∧Below W.heap.size W w'):=fun W h1=>by rw [←ho];exact pU ky p ha hp hl v W h1
 obtain ⟨I,hI⟩ : ∃ z,gU o=z:=⟨_,rfl⟩
 obtain ⟨ob,hob⟩ : ∃ z,vX o=z:=⟨_,rfl⟩
 have HI:Hid (L32 I):=by rw [←hI];exact HIL.out
 have HIE:Hid (gU o=I):=hI
 have HOB:Hid (vX o=ob):=hob
 rw [hI,hob] at HPO
 obtain ⟨G,hG⟩ : ∃ z,pG x=z:=⟨_,rfl⟩
 obtain ⟨C,hC⟩ : ∃ z,pC x=z:=⟨_,rfl⟩
 obtain ⟨T,hT⟩ : ∃ z,pT x=z:=⟨_,rfl⟩
 obtain ⟨X,hX⟩ : ∃ z,wd C=z:=⟨_,rfl⟩
 have HG:Hid (L32 G):=by rw [←hG];exact L32.pG hx hxb
 have HT:Hid (L32 T):=by rw [←hT];exact L32.pT hx hxb
 have HX:Hid (L32 X):=by rw [←hX,←hC];exact L32.wd (kY hx) (xw hxb)
 have HCL:Hid (C.length=16):=by rw [←hC];exact kY hx
 have HPR:Hid (∀ W,Glo Ve.MA W→Calls Tryz.prog 37 #[.agg (bv x).toArray] W fun e w'=>e = .returned (.tuple #[.agg (bv G).toArray,.agg (bv X).toArray,.agg (bv T).toArray])∧Below W.heap.size W w'):=fun W hw=>by rw [←hG,←hT,←hX,←hC];exact yC hx W hw
 have HOG:Hid (oe=0→rk G=0):=fun h=>by rw [←hG];exact (KJ (hoe.trans h)).1
 have HZ64:Hid (∀ e,vyE ky p x=e→e≠0→vyV ky p x=List.replicate 64 0):=fun e h1 h2=>Je h1 h2
 have HEA:Hid (rA≠0∨sA=true→vyE ky p x=2):=by rw [←hrA,←hsA];exact Od
 have HEB:Hid (rA=0→sA=false→vyE ky p x=if oe≠0 then oe else vyO ky x o):=by rw [←hrA,←hsA,←hoe,←ho];exact MH
 have HRA:Hid (rA=0→a8 (le ky)=true):=fun h=>Dd (hrA.trans h)
 have HOK:Hid (vyE ky p x=0→vyV ky p x=OV):=by rw [←hOV];exact Jd
 have HOE:Hid (oe=0∨oe=2):=by rw [←hoe];unfold otE;split;exact .inl rfl;exact .inr rfl
 have HVC:Hid (∀ I0,vyC ky x I0=decide (chl ky I0 G (df T X ky) (d2 T I0 X G)=C)):=fun I0=>by unfold vyC;rw [hG,hC,hT,hX]
 have HXE:Hid (wd C=X):=hX
 have hz:=bG
 obtain ⟨Z,hZ⟩ : ∃ Z,(bv (List.replicate 32 0)).toArray=Z:=⟨_,rfl⟩
 have hZs:Z.size=32:=by rw [←hZ];simp [bv]
 have HZS:Hid (Z.size=32):=hZs
 have HZE:Hid ((bv z32).toArray=Z):=hZ
 rw [hZ] at hz
 have hz4:=Gn
 obtain ⟨Zp,hZp⟩ : ∃ Z,(List.replicate 16 (Value.int .u64 0)).toArray=Z:=⟨_,rfl⟩
 have HZP:Hid (Zp.size=16):=by rw [←hZp];rfl
 rw [hZp] at hz4
 obtain ⟨VV,hVV⟩ : ∃ z,vyV ky p x=z:=⟨_,rfl⟩
 obtain ⟨VE,hVE⟩ : ∃ z,vyE ky p x=z:=⟨_,rfl⟩
 rw [hVV,hVE]
 have hzr:=dZ
 obtain ⟨ZR,hZR⟩ : ∃ Z,(bv (List.replicate 64 0)).toArray=Z:=⟨_,rfl⟩
 have hZRs:ZR.size=64:=by rw [←hZR];simp [bv]
 have HZR:Hid (ZR.size=64):=hZRs
 have HZRE:Hid ((bv (List.replicate 64 0)).toArray=ZR):=hZR
 rw [hZR] at hzr
 obtain ⟨A0,hA0⟩ : ∃ A,(bv ky).toArray=A:=⟨_,rfl⟩
 rw [hA0]
 obtain ⟨A1,hA1⟩ : ∃ A,(bv x).toArray=A:=⟨_,rfl⟩
 rw [hA1]
 obtain ⟨U,hU⟩ : ∃ U,(((w.alloc (.cells A0 22)).alloc (.cells A1 25)).alloc (.cells ZR 29))=U:=⟨_,rfl⟩
 have sU:U.heap.size=w.heap.size+3:=by rw [←hU];simp
 have bU:Below w.heap.size w U:=by rw [←hU];exact ((((Below.refl _ w).alloc (by first | exact Nat.le_refl _ | (simp only [World.size_alloc];omega)) _).alloc (by first | exact Nat.le_refl _ | (simp only [World.size_alloc];omega)) _).alloc (by first | exact Nat.le_refl _ | (simp only [World.size_alloc];omega)) _)
 have r0:U.rangeAt (w.heap.size) 0 (bv ky):=fun j v hj=>by rw [Nat.zero_add,cell_of_row U _ j _ _ _ (show U.heap[w.heap.size]? = some (.cells A0 22 (0,0)) by rw [←hU];exact aV [.cells A0 22 (0,0),.cells A1 25 (0,0),.cells ZR 29 (0,0)] w.heap 0 _ rfl),←hA0,List.getElem?_toArray];exact hj
 have r1:U.rangeAt (w.heap.size+1) 0 (bv x):=fun j v hj=>by rw [Nat.zero_add,cell_of_row U _ j _ _ _ (show U.heap[w.heap.size+1]? = some (.cells A1 25 (0,0)) by rw [←hU];exact aV [.cells A0 22 (0,0),.cells A1 25 (0,0),.cells ZR 29 (0,0)] w.heap 1 _ rfl),←hA1,List.getElem?_toArray];exact hj
 have thr:U.there (w.heap.size+2) 0 64:=aO (show U.heap[w.heap.size+2]? = some (.cells ZR 29 (0,0)) by rw [←hU];exact aV [.cells A0 22 (0,0),.cells A1 25 (0,0),.cells ZR 29 (0,0)] w.heap 2 _ rfl) 0 64 (by omega)
 have BU:Hid (Below w.heap.size w U):=bU
 obtain ⟨D,hD⟩ : ∃ D,w.heap.size=D:=⟨_,rfl⟩
 have HD:Hid (w.heap.size=D):=hD
 rw [hD] at sU thr r0 r1
 have SU:Hid (U.heap.size=D+3):=sU
 have THR:Hid (U.there (D+2) 0 64):=thr
 have LTR:Hid (D+2<U.heap.size):=by show _<_;omega
 have RA:Hid (U.rangeAt (D) 0 (bv ky)):=r0
 have LA:Hid (D<U.heap.size):=by show _<_;omega
 have RP:Hid (U.rangeAt (D+1) 0 (bv x)):=r1
 have LP:Hid (D+1<U.heap.size):=by show _<_;omega
 clear sU bU thr hZR hZRs r0 r1 hA0 hA1
 have HGU:Hid (Glo Ve.MA U):=hg.below BU.out
 have HBZ:Hid (∀ W:World,(Instr.build 29 #[]).run Tryz.prog W = .ok (.agg ZR) W):=fun W=>by rw [←HZRE.out];exact kd W
 obtain ⟨E0,hE0⟩ : ∃ z,List.replicate 64 (0:Int)=z:=⟨_,rfl⟩
 have HE:Hid (E0.length=64):=by rw [←hE0];exact jh
 have HEE:Hid (ZR=(bv E0).toArray):=by rw [←hE0];exact HZRE.out.symm
 have HNO:Hid (∀ e,vyE ky p x=e→e≠0→vyV ky p x=E0):=by rw [←hE0];exact HZ64.out
 rw [HEE.out] at HBZ
 obtain ⟨a0,c0,hv0,-,-⟩:=id HVW.out
 obtain ⟨n0,hn0⟩ : ∃ n,p.length=n:=⟨_,rfl⟩
 rw [hn0] at hv0
 subst hv0
 subst hVV
 subst hVE
 clear hg ha hp hl hx hxb hv hrA hsA hOV hoe ho hI hob hG hC hT hX hZ hZs hZp hE0 hn0 HIL HZ64 HZRE
 go_enter Tryz.func14,Tryz.ntmps14
 go_upto_region 1 with (fail)
 try rw [hU]
 try rw [hD]
 clear hU hD
 go_upto_region 2 with (first
  | (refine wpList_load_mid rfl 22 (.tmp 3) rfl (D) 0 rfl (bv ky) _ RA.out Tryz.underlying22 rfl (by rw [ae,HA.out.len];exact aF) ?_)
  | (go_at_call 44;refine (HSM.out U).mono ?_;rintro e W1 ⟨rfl,g1⟩;have BW1:Hid (Below U.heap.size U W1):=g1;clear g1))
 have HG1:Hid (Glo Ve.MA W1):=aE HGU.out BW1.out
 have RA1:Hid (W1.rangeAt (D) 0 (bv ky)):=aa RA.out BW1.out LA.out
 have LA1:Hid (D<W1.heap.size):=YI LA.out BW1.out.size
 have RP1:Hid (W1.rangeAt (D+1) 0 (bv x)):=aa RP.out BW1.out LP.out
 have LP1:Hid (D+1<W1.heap.size):=YI LP.out BW1.out.size
 clear RA LA RP LP
 go_upto_region 3 with (first
  | (refine wpList_load_mid rfl 25 (.tmp 5) rfl (D+1) 0 rfl (bv x) _ RP1.out Tryz.underlying25 rfl (by rw [ae,HXL.out];exact ct) ?_)
  | (go_at_call 12;refine (HOT.out W1 HG1.out).mono ?_;rintro e W2 ⟨rfl,g1⟩;have BW2:Hid (Below W1.heap.size W1 W2):=g1;clear g1)
  | (refine wpList_store_mid rfl 29 (.tmp 10) (.tmp 35) rfl W2.heap.size 0 (bv OV).toArray rfl rfl (bK W2 (HOV.out) HZR.out) (aC (HOV.out) aR) (ar _) ?_;simp only [YN]))
 obtain ⟨e10,he10⟩ : ∃ n,W2.heap.size=n:=⟨_,rfl⟩
 obtain ⟨W3,hW3⟩ : ∃ W,(W2.alloc (.cells ZR 29)).setCells W2.heap.size 0 (bv OV)=W:=⟨_,rfl⟩
 obtain ⟨l1,l2,l3⟩:=aS (by rw [ae,HOV.out,HZR.out]) (by rw [ae,HOV.out];omega) hW3
 have BW3:Hid (Below W2.heap.size W2 W3):=l2
 have RO3:Hid (W3.rangeAt e10 0 (bv OV)):=by rw [←he10];exact l1
 have LO3:Hid (e10<W3.heap.size):=by rw [←he10];exact l3
 try rw [hW3]
 try rw [he10]
 clear l1 l2 l3 hW3 he10
 have B13:Hid (Below W1.heap.size W1 W3):=Below.tr' BW2.out BW3.out
 have RA3:Hid (W3.rangeAt (D) 0 (bv ky)):=aa RA1.out B13.out LA1.out
 have LA3:Hid (D<W3.heap.size):=YI LA1.out B13.out.size
 have RP3:Hid (W3.rangeAt (D+1) 0 (bv x)):=aa RP1.out B13.out LP1.out
 have LP3:Hid (D+1<W3.heap.size):=YI LP1.out B13.out.size
 clear RA1 LA1 RP1 LP1
 have BU3:Hid (Below U.heap.size U W3):=Below.tr' BW1.out B13.out
 have HG3:Hid (Glo Ve.MA W3):=aE HGU.out BU3.out
 have HV3:Hid (Sl W3 (.slice a0 n0 c0) p):=HVW.out.below (Below.tr' BU.out BU3.out) (Nat.le_refl _)
 clear BW2 BW3 B13 BW1 HG1
 by_cases h0:rA=0
 ·subst h0
  cases sA with
  | true =>
   have HF:Hid (vyE ky p x=2):=HEA.out (.inr rfl)
   have THd:Hid _:=an THR.out BU3.out LTR.out
   have HV2:Hid (vyV ky p x=E0):=HNO.out _ HF.out (by decide)
   go_wp2_with (first
    | (refine bm 29 rfl rfl _ (HBZ.out _) ?_)
    | (refine wpList_store_mid rfl 29 (.tmp 6) (.tmp 46) rfl (D+2) 0 (bv E0).toArray rfl rfl (aK (HE.out) (THd.out)) (aC (HE.out) aR) (ar _) ?_;simp only [YN]))
   have qq:(W3.setCells (D+2) 0 (bv E0)).rangeAt (D+2) 0 (bv E0):=World.rangeAt_setCells_same _ _ _ _ (by rw [ae,HE.out];exact THd.out)
   have hbl:Below w.heap.size w (W3.setCells (D+2) 0 (bv E0)):=af (by rw [HD.out];omega) _ _ (BU.out.trans (BU3.out.mono BU.out.size))
   try simp only [Exit.inBlock,Exit.then]
   refine bodyPost_ret (v := .tuple #[.agg (bv E0).toArray,.int .i64 2]) ?_ rfl ⟨by rw [HV2.out,HF.out],hbl⟩
   exact au Tryz.results14 _ _ (D+2) 0 (bv E0) _ _ rfl rfl qq Tryz.underlying29 rfl (by rw [ae,HE.out];exact aR)
  | false =>
   have HEB2:Hid (vyE ky p x=if oe≠0 then oe else vyO ky x o):=HEB.out rfl rfl
   have HKR:Hid (a8 (le ky)=true):=HRA.out rfl
   clear HEA HEB HRA
   rcases HOE.out with hoe | hoe
   ·subst hoe
    have HEB3:Hid (vyE ky p x=vyO ky x o):=by show _=_;rw [HEB2.out,if_neg (by decide)]
    have HGR:Hid (a8 (le G)=true):=Dd (HOG.out rfl)
    clear HEB2 HOG
    go_upto_region 6 with (first
     | (refine wpList_load_mid rfl 22 (.tmp 3) rfl (D) 0 rfl (bv ky) _ RA3.out Tryz.underlying22 rfl (by rw [ae,HA.out.len];exact aF) ?_)
     | (go_at_call 29;refine (HPO.out W3 HV3.out).mono ?_;rintro e W4 ⟨rfl,g1⟩;have BW4:Hid (Below W3.heap.size W3 W4):=g1;clear g1)
     | (refine wpList_store_mid rfl 22 (.tmp 12) (.tmp 51) rfl W4.heap.size 0 (bv I).toArray rfl rfl (bK W4 (HI.out.len) HZS.out) (aC (HI.out.len) aF) (ar _) ?_;simp only [YN]))
    obtain ⟨e12,he12⟩ : ∃ n,W4.heap.size=n:=⟨_,rfl⟩
    obtain ⟨W5,hW5⟩ : ∃ W,(W4.alloc (.cells Z 22)).setCells W4.heap.size 0 (bv I)=W:=⟨_,rfl⟩
    obtain ⟨l1,l2,l3⟩:=aS (by rw [ae,HI.out.len,HZS.out]) (by rw [ae,HI.out.len];omega) hW5
    have BW5:Hid (Below W4.heap.size W4 W5):=l2
    have RI5:Hid (W5.rangeAt e12 0 (bv I)):=by rw [←he12];exact l1
    have LI5:Hid (e12<W5.heap.size):=by rw [←he12];exact l3
    try rw [hW5]
    try rw [he12]
    clear l1 l2 l3 hW5 he12
    have B35:Hid (Below W3.heap.size W3 W5):=Below.tr' BW4.out BW5.out
    have RA5:Hid (W5.rangeAt (D) 0 (bv ky)):=aa RA3.out B35.out LA3.out
    have LA5:Hid (D<W5.heap.size):=YI LA3.out B35.out.size
    have RP5:Hid (W5.rangeAt (D+1) 0 (bv x)):=aa RP3.out B35.out LP3.out
    have LP5:Hid (D+1<W5.heap.size):=YI LP3.out B35.out.size
    have RO5:Hid (W5.rangeAt (e10) 0 (bv OV)):=aa RO3.out B35.out LO3.out
    have LO5:Hid (e10<W5.heap.size):=YI LO3.out B35.out.size
    clear RA3 LA3 RP3 LP3 RO3 LO3
    have BU5:Hid (Below U.heap.size U W5):=Below.tr' BU3.out B35.out
    have HG5:Hid (Glo Ve.MA W5):=aE HGU.out BU5.out
    clear BW4 BW5 B35 BU3 HG3 HV3
    cases o with
    | none =>
     obtain rfl:ob=false:=HOB.out.symm
     have HF:Hid (vyE ky p x=4):=HEB3.out
     have THd:Hid _:=an THR.out BU5.out LTR.out
     have HV2:Hid (vyV ky p x=E0):=HNO.out _ HF.out (by decide)
     go_wp2_with (first
      | (refine bm 29 rfl rfl _ (HBZ.out _) ?_)
      | (refine wpList_store_mid rfl 29 (.tmp 6) (.tmp 55) rfl (D+2) 0 (bv E0).toArray rfl rfl (aK (HE.out) (THd.out)) (aC (HE.out) aR) (ar _) ?_;simp only [YN]))
     have qq:(W5.setCells (D+2) 0 (bv E0)).rangeAt (D+2) 0 (bv E0):=World.rangeAt_setCells_same _ _ _ _ (by rw [ae,HE.out];exact THd.out)
     have hbl:Below w.heap.size w (W5.setCells (D+2) 0 (bv E0)):=af (by rw [HD.out];omega) _ _ (BU.out.trans (BU5.out.mono BU.out.size))
     try simp only [Exit.inBlock,Exit.then]
     refine bodyPost_ret (v := .tuple #[.agg (bv E0).toArray,.int .i64 4]) ?_ rfl ⟨by rw [HV2.out,HF.out],hbl⟩
     exact au Tryz.results14 _ _ (D+2) 0 (bv E0) _ _ rfl rfl qq Tryz.underlying29 rfl (by rw [ae,HE.out];exact aR)
    | some I0 =>
     obtain rfl:ob=true:=HOB.out.symm
     obtain rfl:I0=I:=HIE.out
     have HHR:Hid (a8 (le I0)=true):=HIR.out I0 rfl
     have HEB4:Hid (vyE ky p x=if vyC ky x I0=true then 0 else 3):=HEB3.out
     obtain ⟨PA,hPA⟩ : ∃ P,dqP (le ky)=P:=⟨_,rfl⟩
     obtain ⟨PH,hPH⟩ : ∃ P,dqP (le I0)=P:=⟨_,rfl⟩
     obtain ⟨PG,hPG⟩ : ∃ P,dqP (le G)=P:=⟨_,rfl⟩
     obtain ⟨PB,hPB⟩ : ∃ P,dqP GY=P:=⟨_,rfl⟩
     have oA:PA.ok:=by rw [←hPA];exact cz _
     have oH:PH.ok:=by rw [←hPH];exact cz _
     have oG:PG.ok:=by rw [←hPG];exact cz _
     have oB:PB.ok:=by rw [←hPB];exact cz _
     obtain ⟨CA,hCA⟩ : ∃ C,q16 PA=C:=⟨_,rfl⟩
     have HCAL:Hid (CA.length=16):=by rw [←hCA];exact ng _
     have HCA1:Hid (CA.toArray.all (·.oneCell')=true):=by rw [←hCA];exact nk _
     obtain ⟨CH,hCH⟩ : ∃ C,q16 PH=C:=⟨_,rfl⟩
     have HCHL:Hid (CH.length=16):=by rw [←hCH];exact ng _
     have HCH1:Hid (CH.toArray.all (·.oneCell')=true):=by rw [←hCH];exact nk _
     obtain ⟨CG,hCG⟩ : ∃ C,q16 PG=C:=⟨_,rfl⟩
     have HCGL:Hid (CG.length=16):=by rw [←hCG];exact ng _
     have HCG1:Hid (CG.toArray.all (·.oneCell')=true):=by rw [←hCG];exact nk _
     obtain ⟨CB,hCB⟩ : ∃ C,q16 PB=C:=⟨_,rfl⟩
     have HCBL:Hid (CB.length=16):=by rw [←hCB];exact ng _
     have HCB1:Hid (CB.toArray.all (·.oneCell')=true):=by rw [←hCB];exact nk _
     have HDA:Hid (∀ W,Calls Tryz.prog 45 #[.agg (bv ky).toArray] W fun e w'=>e = .returned (.tuple #[.agg CA.toArray,.bool true])∧Below W.heap.size W w'):=zE HA.out (by rw [hPA,hCA]) HKR.out
     have HDH:Hid (∀ W,Calls Tryz.prog 45 #[.agg (bv I0).toArray] W fun e w'=>e = .returned (.tuple #[.agg CH.toArray,.bool true])∧Below W.heap.size W w'):=zE HI.out (by rw [hPH,hCH]) HHR.out
     have HDG:Hid (∀ W,Calls Tryz.prog 45 #[.agg (bv G).toArray] W fun e w'=>e = .returned (.tuple #[.agg CG.toArray,.bool true])∧Below W.heap.size W w'):=zE HG.out (by rw [hPG,hCG]) HGR.out
     obtain ⟨gb,hgb⟩ : ∃ z,a8 GY=z:=⟨_,rfl⟩
     have HGY:Hid (L32 (bi GY)):=dq _
     have HDB:Hid (∀ W,Calls Tryz.prog 45 #[.agg (bv (bi GY)).toArray] W fun e w'=>e = .returned (.tuple #[.agg CB.toArray,.bool gb])∧Below W.heap.size W w'):=zE (dq GY) (by rw [jx (show GY<RN by decide),hPB,hCB]) (by rw [jx (show GY<RN by decide),hgb])
     obtain ⟨PS,hPS⟩ : ∃ P,dM (le T) PB=P:=⟨_,rfl⟩
     obtain ⟨PK,hPK⟩ : ∃ P,dM (le X) PA=P:=⟨_,rfl⟩
     obtain ⟨PM,hPM⟩ : ∃ P,iB PK=P:=⟨_,rfl⟩
     obtain ⟨PD,hPD⟩ : ∃ P,aU PS PM=P:=⟨_,rfl⟩
     have oPS:PS.ok:=by rw [←hPS];exact rW _ oB
     have oPK:PK.ok:=by rw [←hPK];exact rW _ oA
     have oPM:PM.ok:=by rw [←hPM];exact gK oPK
     have oPD:PD.ok:=by rw [←hPD];exact dD oPS oPM
     have HPS:Hid (∀ W,Calls Tryz.prog 49 #[.agg (bv T).toArray,.agg CB.toArray] W fun e w'=>e = .returned (qv PS)∧Below W.heap.size W w'):=yG HT.out oB hCB hPS
     have HPK:Hid (∀ W,Calls Tryz.prog 49 #[.agg (bv X).toArray,.agg CA.toArray] W fun e w'=>e = .returned (qv PK)∧Below W.heap.size W w'):=yG HX.out oA hCA hPK
     have HPM:Hid (∀ W,Calls Tryz.prog 50 #[qv PK] W fun e w'=>e = .returned (qv PM)∧Below W.heap.size W w'):=fun W=>by rw [←hPM];exact Ej oPK W
     have HPD:Hid (∀ W,Calls Tryz.prog 48 #[qv PS,qv PM] W fun e w'=>e = .returned (qv PD)∧Below W.heap.size W w'):=fun W=>by rw [←hPD];exact Em oPS oPM W
     obtain ⟨QS,hQS⟩ : ∃ P,dM (le T) PH=P:=⟨_,rfl⟩
     obtain ⟨QK,hQK⟩ : ∃ P,dM (le X) PG=P:=⟨_,rfl⟩
     obtain ⟨QM,hQM⟩ : ∃ P,iB QK=P:=⟨_,rfl⟩
     obtain ⟨QD,hQD⟩ : ∃ P,aU QS QM=P:=⟨_,rfl⟩
     have oQS:QS.ok:=by rw [←hQS];exact rW _ oH
     have oQK:QK.ok:=by rw [←hQK];exact rW _ oG
     have oQM:QM.ok:=by rw [←hQM];exact gK oQK
     have oQD:QD.ok:=by rw [←hQD];exact dD oQS oQM
     have HQS:Hid (∀ W,Calls Tryz.prog 49 #[.agg (bv T).toArray,.agg CH.toArray] W fun e w'=>e = .returned (qv QS)∧Below W.heap.size W w'):=yG HT.out oH hCH hQS
     have HQK:Hid (∀ W,Calls Tryz.prog 49 #[.agg (bv X).toArray,.agg CG.toArray] W fun e w'=>e = .returned (qv QK)∧Below W.heap.size W w'):=yG HX.out oG hCG hQK
     have HQM:Hid (∀ W,Calls Tryz.prog 50 #[qv QK] W fun e w'=>e = .returned (qv QM)∧Below W.heap.size W w'):=fun W=>by rw [←hQM];exact Ej oQK W
     have HQD:Hid (∀ W,Calls Tryz.prog 48 #[qv QS,qv QM] W fun e w'=>e = .returned (qv QD)∧Below W.heap.size W w'):=fun W=>by rw [←hQD];exact Em oQS oQM W
     have hDR:PD=dR T X ky:=by rw [←hPD,←hPS,←hPM,←hPK,←hPA,←hPB];rfl
     have hQR:QD=d2R T I0 X G:=by rw [←hQD,←hQS,←hQM,←hQK,←hPH,←hPG];rfl
     obtain ⟨u,hu⟩ : ∃ z,df T X ky=z:=⟨_,rfl⟩
     have Hu:Hid (L32 u):=by rw [←hu];exact L32.df _ _ _
     obtain ⟨v2,hv2⟩ : ∃ z,d2 T I0 X G=z:=⟨_,rfl⟩
     have Hv2:Hid (L32 v2):=by rw [←hv2];exact L32.d2 _ _ _ _
     have HPE:Hid (∀ W,Calls Tryz.prog 47 #[qv PD] W fun e w'=>e = .returned (.agg (bv u).toArray)∧Below W.heap.size W w'):=fun W=>by
      have:=Di oPD W
      rw [hDR,Et HT.out HX.out HA.out HKR.out,hu,←hDR] at this
      exact this
     have HQE:Hid (∀ W,Calls Tryz.prog 47 #[qv QD] W fun e w'=>e = .returned (.agg (bv v2).toArray)∧Below W.heap.size W w'):=fun W=>by
      have:=Di oQD W
      rw [hQR,Cy HT.out HI.out HX.out HG.out HHR.out HGR.out,hv2,←hQR] at this
      exact this
     obtain ⟨Q,hQ⟩ : ∃ z,chw ky I0 G u v2=z:=⟨_,rfl⟩
     have HQ:Hid (L32 Q):=by rw [←hQ];exact L32.wd (kr _ _ _ _ _) (mQ _ _ _ _ _)
     have HCH:Hid (∀ W,Calls Tryz.prog 32 #[.agg (bv ky).toArray,.agg (bv I0).toArray,.agg (bv G).toArray,.agg (bv u).toArray,.agg (bv v2).toArray] W fun e w'=>e = .returned (.agg (bv Q).toArray)∧Below W.heap.size W w'):=fun W=>by rw [←hQ];exact iu _ _ _ _ _ HA.out HI.out HG.out Hu.out Hv2.out W
     have HEB5:Hid (vyE ky p x=if Q=X then 0 else 3):=by
      show _=_
      rw [HEB4.out,HVC.out I0,hu,hv2]
      have k:=Ls ky I0 G u v2 C HCL.out
      rw [hQ,HXE.out] at k
      by_cases q:Q=X
      ·rw [if_pos q,if_pos (decide_eq_true (k.1 q))]
      ·rw [if_neg q,if_neg (by rw [decide_eq_false (fun z=>q (k.2 z))];decide)]
     clear hPA hPH hPG hPB hCA hCH hCG hCB hPS hPK hPM hPD hQS hQK hQM hQD hDR hQR hu hv2 hQ oA oH oG oB oPS oPK oPM oPD oQS oQK oQM oQD hgb HEB3 HEB4 HVC HIE HIR HOB HKR HHR HGR
     go_upto_region 9 with (first
      | (refine wpList_load_mid rfl 25 (.tmp 5) rfl (D+1) 0 rfl (bv x) _ RP5.out Tryz.underlying25 rfl (by rw [ae,HXL.out];exact ct) ?_)
      | (go_at_call 37;refine (HPR.out W5 HG5.out).mono ?_;rintro e Wa ⟨rfl,g1⟩;have BWa:Hid (Below W5.heap.size W5 Wa):=g1;obtain ⟨V,hV⟩ : ∃ V,((Wa.alloc (.cells Z 22)).alloc (.cells Z 22)).alloc (.cells Z 22)=V:=⟨_,rfl⟩;obtain ⟨a4,a5,a6,hXX⟩:=zh Wa HZS.out HZS.out HZS.out HG.out.len HX.out.len HT.out.len hV;have A4:Hid _:=a4;have A5:Hid _:=a5;have A6:Hid _:=a6;clear a4 a5 a6;clear g1)
      | (refine wpList_store_mid rfl 22 (.tmp 14) (.tmp 59) rfl (Wa.heap.size) 0 (bv G).toArray rfl rfl (aK (HG.out.len) (A4.out)) (aC (HG.out.len) aF) (ar _) ?_;simp only [YN])
      | (refine wpList_store_mid rfl 22 (.tmp 15) (.tmp 60) rfl (Wa.heap.size+1) 0 (bv X).toArray rfl rfl (aK (HX.out.len) (A5.out)) (aC (HX.out.len) aF) (ar _) ?_;simp only [YN])
      | (refine wpList_store_mid rfl 22 (.tmp 16) (.tmp 61) rfl (Wa.heap.size+1+1) 0 (bv T).toArray rfl rfl (aK (HT.out.len) (A6.out)) (aC (HT.out.len) aF) (ar _) ?_;simp only [YN]))
     obtain ⟨b14,hb14⟩ : ∃ n,Wa.heap.size=n:=⟨_,rfl⟩
     obtain ⟨Wb,hWb⟩ : ∃ Y,((V.setCells Wa.heap.size 0 (bv G)).setCells (Wa.heap.size+1) 0 (bv X)).setCells (Wa.heap.size+1+1) 0 (bv T)=Y:=⟨_,rfl⟩
     obtain ⟨r4,r5,r6,bX,sX⟩:=hXX Wb hWb
     have BWb:Hid (Below Wa.heap.size Wa Wb):=bX
     rw [hb14] at r4 r5 r6 sX
     have RGb:Hid (Wb.rangeAt b14 0 (bv G)):=r4
     have LGb:Hid (b14<Wb.heap.size):=by show _<_;omega
     have RXb:Hid (Wb.rangeAt (b14+1) 0 (bv X)):=r5
     have LXb:Hid (b14+1<Wb.heap.size):=by show _<_;omega
     have RTb:Hid (Wb.rangeAt (b14+1+1) 0 (bv T)):=r6
     have LTb:Hid (b14+1+1<Wb.heap.size):=by show _<_;omega
     have B5b:Hid (Below W5.heap.size W5 Wb):=Below.tr' BWa.out BWb.out
     have BUb:Hid (Below U.heap.size U Wb):=Below.tr' BU5.out B5b.out
     have RAb:Hid (Wb.rangeAt (D) 0 (bv ky)):=aa RA5.out B5b.out LA5.out
     have LAb:Hid (D<Wb.heap.size):=YI LA5.out B5b.out.size
     have ROb:Hid (Wb.rangeAt (e10) 0 (bv OV)):=aa RO5.out B5b.out LO5.out
     have LOb:Hid (e10<Wb.heap.size):=YI LO5.out B5b.out.size
     have RIb:Hid (Wb.rangeAt (e12) 0 (bv I0)):=aa RI5.out B5b.out LI5.out
     have LIb:Hid (e12<Wb.heap.size):=YI LI5.out B5b.out.size
     clear RA5 LA5 RO5 LO5 RI5 LI5
     try rw [hWb]
     try rw [hb14]
     clear r4 r5 r6 bX sX hXX hb14 hWb A4 A5 A6 hV BWa BWb B5b BU5 HG5 RP5 LP5
     go_upto_region 10 with (first
      | (refine wpList_load_mid rfl 22 (.tmp 3) rfl (D) 0 rfl (bv ky) _ RAb.out Tryz.underlying22 rfl (by rw [ae,HA.out.len];exact aF) ?_)
      | (go_at_call 45;refine (HDA.out Wb).mono ?_;rintro e Wb1 ⟨rfl,g1⟩;have BWb1:Hid (Below Wb.heap.size Wb Wb1):=g1;clear g1)
      | (refine wpList_store_mid rfl 70 (.tmp 17) (.tmp 65) rfl Wb1.heap.size 0 CA.toArray rfl rfl (bM Wb1 (show CA.toArray.size=Zp.size by rw [List.size_toArray,HCAL.out,HZP.out])) (by rw [List.size_toArray,HCAL.out];exact fN) HCA1.out ?_;simp only [YN]))
     obtain ⟨e17,he17⟩ : ∃ n,Wb1.heap.size=n:=⟨_,rfl⟩
     obtain ⟨Wc,hWc⟩ : ∃ W,(Wb1.alloc (.cells Zp 70)).setCells Wb1.heap.size 0 CA=W:=⟨_,rfl⟩
     obtain ⟨l1,l2,l3⟩:=aS (by rw [HCAL.out,HZP.out]) (by rw [HCAL.out];omega) hWc
     have BWc:Hid (Below Wb1.heap.size Wb1 Wc):=l2
     have RKc:Hid (Wc.rangeAt e17 0 CA):=by rw [←he17];exact l1
     have LKc:Hid (e17<Wc.heap.size):=by rw [←he17];exact l3
     try rw [hWc]
     try rw [he17]
     clear l1 l2 l3 hWc he17
     have BBc:Hid (Below Wb.heap.size Wb Wc):=Below.tr' BWb1.out BWc.out
     have RAc:Hid (Wc.rangeAt (D) 0 (bv ky)):=aa RAb.out BBc.out LAb.out
     have LAc:Hid (D<Wc.heap.size):=YI LAb.out BBc.out.size
     have ROc:Hid (Wc.rangeAt (e10) 0 (bv OV)):=aa ROb.out BBc.out LOb.out
     have LOc:Hid (e10<Wc.heap.size):=YI LOb.out BBc.out.size
     have RIc:Hid (Wc.rangeAt (e12) 0 (bv I0)):=aa RIb.out BBc.out LIb.out
     have LIc:Hid (e12<Wc.heap.size):=YI LIb.out BBc.out.size
     have RGc:Hid (Wc.rangeAt (b14) 0 (bv G)):=aa RGb.out BBc.out LGb.out
     have LGc:Hid (b14<Wc.heap.size):=YI LGb.out BBc.out.size
     have RXc:Hid (Wc.rangeAt (b14+1) 0 (bv X)):=aa RXb.out BBc.out LXb.out
     have LXc:Hid (b14+1<Wc.heap.size):=YI LXb.out BBc.out.size
     have RTc:Hid (Wc.rangeAt (b14+1+1) 0 (bv T)):=aa RTb.out BBc.out LTb.out
     have LTc:Hid (b14+1+1<Wc.heap.size):=YI LTb.out BBc.out.size
     clear RAb LAb ROb LOb RIb LIb RGb LGb RXb LXb RTb LTb
     have BUc:Hid (Below U.heap.size U Wc):=Below.tr' BUb.out BBc.out
     clear BWb1 BWc BBc BUb
     go_upto_region 11 with (first
      | (refine wpList_load_mid rfl 22 (.tmp 12) rfl (e12) 0 rfl (bv I0) _ RIc.out Tryz.underlying22 rfl (by rw [ae,HI.out.len];exact aF) ?_)
      | (go_at_call 45;refine (HDH.out Wc).mono ?_;rintro e Wc1 ⟨rfl,g1⟩;have BWc1:Hid (Below Wc.heap.size Wc Wc1):=g1;clear g1)
      | (refine wpList_store_mid rfl 70 (.tmp 19) (.tmp 70) rfl Wc1.heap.size 0 CH.toArray rfl rfl (bM Wc1 (show CH.toArray.size=Zp.size by rw [List.size_toArray,HCHL.out,HZP.out])) (by rw [List.size_toArray,HCHL.out];exact fN) HCH1.out ?_;simp only [YN]))
     obtain ⟨e19,he19⟩ : ∃ n,Wc1.heap.size=n:=⟨_,rfl⟩
     obtain ⟨Wd,hWd⟩ : ∃ W,(Wc1.alloc (.cells Zp 70)).setCells Wc1.heap.size 0 CH=W:=⟨_,rfl⟩
     obtain ⟨l1,l2,l3⟩:=aS (by rw [HCHL.out,HZP.out]) (by rw [HCHL.out];omega) hWd
     have BWd:Hid (Below Wc1.heap.size Wc1 Wd):=l2
     have RHd:Hid (Wd.rangeAt e19 0 CH):=by rw [←he19];exact l1
     have LHd:Hid (e19<Wd.heap.size):=by rw [←he19];exact l3
     try rw [hWd]
     try rw [he19]
     clear l1 l2 l3 hWd he19
     have BBd:Hid (Below Wc.heap.size Wc Wd):=Below.tr' BWc1.out BWd.out
     have RAd:Hid (Wd.rangeAt (D) 0 (bv ky)):=aa RAc.out BBd.out LAc.out
     have LAd:Hid (D<Wd.heap.size):=YI LAc.out BBd.out.size
     have ROd:Hid (Wd.rangeAt (e10) 0 (bv OV)):=aa ROc.out BBd.out LOc.out
     have LOd:Hid (e10<Wd.heap.size):=YI LOc.out BBd.out.size
     have RId:Hid (Wd.rangeAt (e12) 0 (bv I0)):=aa RIc.out BBd.out LIc.out
     have LId:Hid (e12<Wd.heap.size):=YI LIc.out BBd.out.size
     have RGd:Hid (Wd.rangeAt (b14) 0 (bv G)):=aa RGc.out BBd.out LGc.out
     have LGd:Hid (b14<Wd.heap.size):=YI LGc.out BBd.out.size
     have RXd:Hid (Wd.rangeAt (b14+1) 0 (bv X)):=aa RXc.out BBd.out LXc.out
     have LXd:Hid (b14+1<Wd.heap.size):=YI LXc.out BBd.out.size
     have RTd:Hid (Wd.rangeAt (b14+1+1) 0 (bv T)):=aa RTc.out BBd.out LTc.out
     have LTd:Hid (b14+1+1<Wd.heap.size):=YI LTc.out BBd.out.size
     clear RAc LAc ROc LOc RIc LIc RGc LGc RXc LXc RTc LTc
     have RKd:Hid (Wd.rangeAt (e17) 0 CA):=aa RKc.out BBd.out LKc.out
     have LKd:Hid (e17<Wd.heap.size):=YI LKc.out BBd.out.size
     clear RKc LKc
     have BUd:Hid (Below U.heap.size U Wd):=Below.tr' BUc.out BBd.out
     clear BWc1 BWd BBd BUc
     go_upto_region 12 with (first
      | (refine wpList_load_mid rfl 22 (.tmp 14) rfl (b14) 0 rfl (bv G) _ RGd.out Tryz.underlying22 rfl (by rw [ae,HG.out.len];exact aF) ?_)
      | (go_at_call 45;refine (HDG.out Wd).mono ?_;rintro e Wd1 ⟨rfl,g1⟩;have BWd1:Hid (Below Wd.heap.size Wd Wd1):=g1;clear g1)
      | (refine wpList_store_mid rfl 70 (.tmp 21) (.tmp 75) rfl Wd1.heap.size 0 CG.toArray rfl rfl (bM Wd1 (show CG.toArray.size=Zp.size by rw [List.size_toArray,HCGL.out,HZP.out])) (by rw [List.size_toArray,HCGL.out];exact fN) HCG1.out ?_;simp only [YN]))
     obtain ⟨e21,he21⟩ : ∃ n,Wd1.heap.size=n:=⟨_,rfl⟩
     obtain ⟨We,hWe⟩ : ∃ W,(Wd1.alloc (.cells Zp 70)).setCells Wd1.heap.size 0 CG=W:=⟨_,rfl⟩
     obtain ⟨l1,l2,l3⟩:=aS (by rw [HCGL.out,HZP.out]) (by rw [HCGL.out];omega) hWe
     have BWe:Hid (Below Wd1.heap.size Wd1 We):=l2
     have RCe:Hid (We.rangeAt e21 0 CG):=by rw [←he21];exact l1
     have LCe:Hid (e21<We.heap.size):=by rw [←he21];exact l3
     try rw [hWe]
     try rw [he21]
     clear l1 l2 l3 hWe he21
     have BBe:Hid (Below Wd.heap.size Wd We):=Below.tr' BWd1.out BWe.out
     have RAe:Hid (We.rangeAt (D) 0 (bv ky)):=aa RAd.out BBe.out LAd.out
     have LAe:Hid (D<We.heap.size):=YI LAd.out BBe.out.size
     have ROe:Hid (We.rangeAt (e10) 0 (bv OV)):=aa ROd.out BBe.out LOd.out
     have LOe:Hid (e10<We.heap.size):=YI LOd.out BBe.out.size
     have RIe:Hid (We.rangeAt (e12) 0 (bv I0)):=aa RId.out BBe.out LId.out
     have LIe:Hid (e12<We.heap.size):=YI LId.out BBe.out.size
     have RGe:Hid (We.rangeAt (b14) 0 (bv G)):=aa RGd.out BBe.out LGd.out
     have LGe:Hid (b14<We.heap.size):=YI LGd.out BBe.out.size
     have RXe:Hid (We.rangeAt (b14+1) 0 (bv X)):=aa RXd.out BBe.out LXd.out
     have LXe:Hid (b14+1<We.heap.size):=YI LXd.out BBe.out.size
     have RTe:Hid (We.rangeAt (b14+1+1) 0 (bv T)):=aa RTd.out BBe.out LTd.out
     have LTe:Hid (b14+1+1<We.heap.size):=YI LTd.out BBe.out.size
     clear RAd LAd ROd LOd RId LId RGd LGd RXd LXd RTd LTd
     have RKe:Hid (We.rangeAt (e17) 0 CA):=aa RKd.out BBe.out LKd.out
     have LKe:Hid (e17<We.heap.size):=YI LKd.out BBe.out.size
     have RHe:Hid (We.rangeAt (e19) 0 CH):=aa RHd.out BBe.out LHd.out
     have LHe:Hid (e19<We.heap.size):=YI LHd.out BBe.out.size
     clear RKd LKd RHd LHd
     have BUe:Hid (Below U.heap.size U We):=Below.tr' BUd.out BBe.out
     clear BWd1 BWe BBe BUd
     go_upto_region 13 with (first
      | (go_at_call 46;refine (Kw We).mono ?_;rintro e We1g ⟨rfl,g1⟩;have BWe1g:Hid (Below We.heap.size We We1g):=g1;clear g1)
      | (go_at_call 45;refine (HDB.out We1g).mono ?_;rintro e We1 ⟨rfl,g1⟩;have BWe1:Hid (Below We1g.heap.size We1g We1):=g1;clear g1)
      | (refine wpList_store_mid rfl 70 (.tmp 23) (.tmp 80) rfl We1.heap.size 0 CB.toArray rfl rfl (bM We1 (show CB.toArray.size=Zp.size by rw [List.size_toArray,HCBL.out,HZP.out])) (by rw [List.size_toArray,HCBL.out];exact fN) HCB1.out ?_;simp only [YN]))
     obtain ⟨e23,he23⟩ : ∃ n,We1.heap.size=n:=⟨_,rfl⟩
     obtain ⟨Wg,hWg⟩ : ∃ W,(We1.alloc (.cells Zp 70)).setCells We1.heap.size 0 CB=W:=⟨_,rfl⟩
     obtain ⟨l1,l2,l3⟩:=aS (by rw [HCBL.out,HZP.out]) (by rw [HCBL.out];omega) hWg
     have BWg:Hid (Below We1.heap.size We1 Wg):=l2
     have RBg:Hid (Wg.rangeAt e23 0 CB):=by rw [←he23];exact l1
     have LBg:Hid (e23<Wg.heap.size):=by rw [←he23];exact l3
     try rw [hWg]
     try rw [he23]
     clear l1 l2 l3 hWg he23
     have BBg:Hid (Below We.heap.size We Wg):=Below.tr' (Below.tr' BWe1g.out BWe1.out) BWg.out
     have RAg:Hid (Wg.rangeAt (D) 0 (bv ky)):=aa RAe.out BBg.out LAe.out
     have LAg:Hid (D<Wg.heap.size):=YI LAe.out BBg.out.size
     have ROg:Hid (Wg.rangeAt (e10) 0 (bv OV)):=aa ROe.out BBg.out LOe.out
     have LOg:Hid (e10<Wg.heap.size):=YI LOe.out BBg.out.size
     have RIg:Hid (Wg.rangeAt (e12) 0 (bv I0)):=aa RIe.out BBg.out LIe.out
     have LIg:Hid (e12<Wg.heap.size):=YI LIe.out BBg.out.size
     have RGg:Hid (Wg.rangeAt (b14) 0 (bv G)):=aa RGe.out BBg.out LGe.out
     have LGg:Hid (b14<Wg.heap.size):=YI LGe.out BBg.out.size
     have RXg:Hid (Wg.rangeAt (b14+1) 0 (bv X)):=aa RXe.out BBg.out LXe.out
     have LXg:Hid (b14+1<Wg.heap.size):=YI LXe.out BBg.out.size
     have RTg:Hid (Wg.rangeAt (b14+1+1) 0 (bv T)):=aa RTe.out BBg.out LTe.out
     have LTg:Hid (b14+1+1<Wg.heap.size):=YI LTe.out BBg.out.size
     clear RAe LAe ROe LOe RIe LIe RGe LGe RXe LXe RTe LTe
     have RKg:Hid (Wg.rangeAt (e17) 0 CA):=aa RKe.out BBg.out LKe.out
     have LKg:Hid (e17<Wg.heap.size):=YI LKe.out BBg.out.size
     have RHg:Hid (Wg.rangeAt (e19) 0 CH):=aa RHe.out BBg.out LHe.out
     have LHg:Hid (e19<Wg.heap.size):=YI LHe.out BBg.out.size
     have RCg:Hid (Wg.rangeAt (e21) 0 CG):=aa RCe.out BBg.out LCe.out
     have LCg:Hid (e21<Wg.heap.size):=YI LCe.out BBg.out.size
     clear RKe LKe RHe LHe RCe LCe
     have BUg:Hid (Below U.heap.size U Wg):=Below.tr' BUe.out BBg.out
     clear BWe1 BWg BBg BUe BWe1g
     clear hz4
     refine RG.wp_rgn' (GI Wg (Ma b14 e17 e23 T X u CB CA PS PK PM PD) (fun _ _ _=>True) [(9,10,bv u,bv z32)]) (by kernel_rfl) (by kernel_rfl) GI.start ?_ ?_
     ·refine ⟨?_,?_,?_,?_,?_,?_,?_,?_,?_,?_,?_,trivial⟩
      ·intro a W d V hI hd hpx hbk hf hp
       have hO':Below Wg.heap.size Wg W:=hI.be
       have q16:a.eval (.tmp 16) = .pointer (some ⟨b14+1+1,0,none⟩):=hf 16 rfl
       exact RU.ob_op rfl (RU.wanted_none rfl) (wp_load_mid 22 (.tmp 16) rfl (b14+1+1) (0) q16 (bv T) _ (aa RTg.out hO' LTg.out) Tryz.underlying22 rfl (aD HT.out) ⟨_,rfl,hI.step (fun _ _ _ _ _ _=>trivial) (Below.refl _ _) 0 _ (by simp) (fun u hu=>by first | (cases hu;rfl) | cases hu) (trivial)⟩)
      ·intro a W d V hI hd hpx hbk hf hp
       have hO':Below Wg.heap.size Wg W:=hI.be
       have q23:a.eval (.tmp 23) = .pointer (some ⟨e23,0,none⟩):=hf 23 rfl
       exact RU.ob_op rfl (RU.wanted_none rfl) (wp_load_mid 70 (.tmp 23) rfl (e23) (0) q23 (CB) _ (aa RBg.out hO' LBg.out) Tryz.underlying70 rfl (by rw [HCBL.out];exact fN) ⟨_,rfl,hI.step (fun _ _ _ _ _ _=>trivial) (Below.refl _ _) 1 _ (by simp) (fun u hu=>by first | (cases hu;rfl) | cases hu) (trivial)⟩)
      ·intro a W d V hI hd hpx hbk hf hp
       have hO':Below Wg.heap.size Wg W:=hI.be
       have e82:a.eval (.tmp 82) = .agg (bv T).toArray:=(hp 0 82 rfl).trans (hI.kn 0 _ rfl (hpx 0 rfl))
       have e83:a.eval (.tmp 83) = .agg CB.toArray:=(hp 1 83 rfl).trans (hI.kn 1 _ rfl (hpx 1 rfl))
       have hno : ∀ x ∈ ([(9,10,bv u,bv z32)]:List Al),d x.2.1=false:=by simp only [List.mem_cons,List.not_mem_nil,or_false,forall_eq_or_imp,forall_eq];exact hbk 10 rfl
       refine RU.ob_call (g:=49) (args := #[.agg (bv T).toArray,.agg CB.toArray]) rfl (RU.wanted_none rfl) (fun ev he hc => ?_) ((HPS.out W).mono ?_)
       ·have h82:=(he (.tmp 82)).trans e82
        have h83:=(he (.tmp 83)).trans e83
        have hfn:=he (.func 49)
        simp only [qF,qD,qE,execOp,YO,YP]
        simp only [resolve,invoke,Sem.run_bind,Sem.run_pure,Result.andThen_ok,List.map_toArray,List.map_cons,List.map_nil,h82,h83,hfn,Act.eval,hc]
        rfl
       ·rintro e' W2 ⟨rfl,hb2⟩
        exact ⟨_,rfl,⟨_,rfl,hI.step (fun _ _ _ _ _ _=>trivial) hb2 2 _ (by simp) (fun u hu=>by first | (cases hu;rfl) | cases hu) (trivial)⟩⟩
      ·intro a W d V hI hd hpx hbk hf hp
       have hO':Below Wg.heap.size Wg W:=hI.be
       have q15:a.eval (.tmp 15) = .pointer (some ⟨b14+1,0,none⟩):=hf 15 rfl
       exact RU.ob_op rfl (RU.wanted_none rfl) (wp_load_mid 22 (.tmp 15) rfl (b14+1) (0) q15 (bv X) _ (aa RXg.out hO' LXg.out) Tryz.underlying22 rfl (aD HX.out) ⟨_,rfl,hI.step (fun _ _ _ _ _ _=>trivial) (Below.refl _ _) 3 _ (by simp) (fun u hu=>by first | (cases hu;rfl) | cases hu) (trivial)⟩)
      ·intro a W d V hI hd hpx hbk hf hp
       have hO':Below Wg.heap.size Wg W:=hI.be
       have q17:a.eval (.tmp 17) = .pointer (some ⟨e17,0,none⟩):=hf 17 rfl
       exact RU.ob_op rfl (RU.wanted_none rfl) (wp_load_mid 70 (.tmp 17) rfl (e17) (0) q17 (CA) _ (aa RKg.out hO' LKg.out) Tryz.underlying70 rfl (by rw [HCAL.out];exact fN) ⟨_,rfl,hI.step (fun _ _ _ _ _ _=>trivial) (Below.refl _ _) 4 _ (by simp) (fun u hu=>by first | (cases hu;rfl) | cases hu) (trivial)⟩)
      ·intro a W d V hI hd hpx hbk hf hp
       have hO':Below Wg.heap.size Wg W:=hI.be
       have e85:a.eval (.tmp 85) = .agg (bv X).toArray:=(hp 3 85 rfl).trans (hI.kn 3 _ rfl (hpx 3 rfl))
       have e86:a.eval (.tmp 86) = .agg CA.toArray:=(hp 4 86 rfl).trans (hI.kn 4 _ rfl (hpx 4 rfl))
       have hno : ∀ x ∈ ([(9,10,bv u,bv z32)]:List Al),d x.2.1=false:=by simp only [List.mem_cons,List.not_mem_nil,or_false,forall_eq_or_imp,forall_eq];exact hbk 10 rfl
       refine RU.ob_call (g:=49) (args := #[.agg (bv X).toArray,.agg CA.toArray]) rfl (RU.wanted_none rfl) (fun ev he hc => ?_) ((HPK.out W).mono ?_)
       ·have h85:=(he (.tmp 85)).trans e85
        have h86:=(he (.tmp 86)).trans e86
        have hfn:=he (.func 49)
        simp only [qF,qD,qE,execOp,YO,YP]
        simp only [resolve,invoke,Sem.run_bind,Sem.run_pure,Result.andThen_ok,List.map_toArray,List.map_cons,List.map_nil,h85,h86,hfn,Act.eval,hc]
        rfl
       ·rintro e' W2 ⟨rfl,hb2⟩
        exact ⟨_,rfl,⟨_,rfl,hI.step (fun _ _ _ _ _ _=>trivial) hb2 5 _ (by simp) (fun u hu=>by first | (cases hu;rfl) | cases hu) (trivial)⟩⟩
      ·intro a W d V hI hd hpx hbk hf hp
       have hO':Below Wg.heap.size Wg W:=hI.be
       have e87:a.eval (.tmp 87)=qv PK:=(hp 5 87 rfl).trans (hI.kn 5 _ rfl (hpx 5 rfl))
       have hno : ∀ x ∈ ([(9,10,bv u,bv z32)]:List Al),d x.2.1=false:=by simp only [List.mem_cons,List.not_mem_nil,or_false,forall_eq_or_imp,forall_eq];exact hbk 10 rfl
       refine RU.ob_call (g:=50) (args := #[qv PK]) rfl (RU.wanted_none rfl) (fun ev he hc => ?_) ((HPM.out W).mono ?_)
       ·have h87:=(he (.tmp 87)).trans e87
        have hfn:=he (.func 50)
        simp only [qF,qD,qE,execOp,YO,YP]
        simp only [resolve,invoke,Sem.run_bind,Sem.run_pure,Result.andThen_ok,List.map_toArray,List.map_cons,List.map_nil,h87,hfn,Act.eval,hc]
        rfl
       ·rintro e' W2 ⟨rfl,hb2⟩
        exact ⟨_,rfl,⟨_,rfl,hI.step (fun _ _ _ _ _ _=>trivial) hb2 6 _ (by simp) (fun u hu=>by first | (cases hu;rfl) | cases hu) (trivial)⟩⟩
      ·intro a W d V hI hd hpx hbk hf hp
       have hO':Below Wg.heap.size Wg W:=hI.be
       have e84:a.eval (.tmp 84)=qv PS:=(hp 2 84 rfl).trans (hI.kn 2 _ rfl (hpx 2 rfl))
       have e88:a.eval (.tmp 88)=qv PM:=(hp 6 88 rfl).trans (hI.kn 6 _ rfl (hpx 6 rfl))
       have hno : ∀ x ∈ ([(9,10,bv u,bv z32)]:List Al),d x.2.1=false:=by simp only [List.mem_cons,List.not_mem_nil,or_false,forall_eq_or_imp,forall_eq];exact hbk 10 rfl
       refine RU.ob_call (g:=48) (args := #[qv PS,qv PM]) rfl (RU.wanted_none rfl) (fun ev he hc => ?_) ((HPD.out W).mono ?_)
       ·have h84:=(he (.tmp 84)).trans e84
        have h88:=(he (.tmp 88)).trans e88
        have hfn:=he (.func 48)
        simp only [qF,qD,qE,execOp,YO,YP]
        simp only [resolve,invoke,Sem.run_bind,Sem.run_pure,Result.andThen_ok,List.map_toArray,List.map_cons,List.map_nil,h84,h88,hfn,Act.eval,hc]
        rfl
       ·rintro e' W2 ⟨rfl,hb2⟩
        exact ⟨_,rfl,⟨_,rfl,hI.step (fun _ _ _ _ _ _=>trivial) hb2 7 _ (by simp) (fun u hu=>by first | (cases hu;rfl) | cases hu) (trivial)⟩⟩
      ·intro a W d V hI hd hpx hbk hf hp
       have hO':Below Wg.heap.size Wg W:=hI.be
       have e89:a.eval (.tmp 89)=qv PD:=(hp 7 89 rfl).trans (hI.kn 7 _ rfl (hpx 7 rfl))
       have hno : ∀ x ∈ ([(9,10,bv u,bv z32)]:List Al),d x.2.1=false:=by simp only [List.mem_cons,List.not_mem_nil,or_false,forall_eq_or_imp,forall_eq];exact hbk 10 rfl
       refine RU.ob_call (g:=47) (args := #[qv PD]) rfl (RU.wanted_none rfl) (fun ev he hc => ?_) ((HPE.out W).mono ?_)
       ·have h89:=(he (.tmp 89)).trans e89
        have hfn:=he (.func 47)
        simp only [qF,qD,qE,execOp,YO,YP]
        simp only [resolve,invoke,Sem.run_bind,Sem.run_pure,Result.andThen_ok,List.map_toArray,List.map_cons,List.map_nil,h89,hfn,Act.eval,hc]
        rfl
       ·rintro e' W2 ⟨rfl,hb2⟩
        exact ⟨_,rfl,⟨_,rfl,hI.step (fun _ _ _ _ _ _=>trivial) hb2 8 _ (by simp) (fun u hu=>by first | (cases hu;rfl) | cases hu) (trivial)⟩⟩
      ·intro a W d V hI hd hpx hbk hf hp
       have hO':Below Wg.heap.size Wg W:=hI.be
       refine RU.ob_run (v := .pointer (some ⟨W.heap.size,0,none⟩)) (w':=W.alloc (.cells (bv z32).toArray 22)) rfl (RU.wanted_none rfl) (fun ev he hc => ?_) ⟨_,rfl,hI.alloc (fun _ _ _ _ _ _=>trivial) (9,10,bv u,bv z32) (by simp) 22 (hbk 10 rfl) (by simp) (by simp) rfl (fun _ _=>trivial)⟩
       simp only [qF,qD,qE,execOp]
       first | (go_simp;done) | (go_simp;rfl) | (go_simp;rw [HZE.out])
      ·intro a W d V hI hd hpx hbk hf hp
       have hO':Below Wg.heap.size Wg W:=hI.be
       have d9:d 9=true:=hpx 9 rfl
       obtain ⟨b,hV,-,-,hth,-⟩:=hI.pt (9,10,bv u,bv z32) (by simp) d9
       have qp:a.eval (.tmp 25) = .pointer (some ⟨b,0,none⟩):=(hp 9 25 rfl).trans hV
       have qv:a.eval (.tmp 90) = .agg (bv u).toArray:=(hp 8 90 rfl).trans (hI.kn 8 _ rfl (hpx 8 rfl))
       exact RU.ob_op rfl (RU.wanted_none rfl) (wp_store_mid 22 (.tmp 25) (.tmp 90) rfl b 0 (bv u).toArray qp qv (by rw [List.size_toArray,(show (bv u).length=(bv z32).length by rw [ae,ae,Hu.out.len,cr.len])];exact hth) (by rw [List.size_toArray];exact aD Hu.out) (ar _) ⟨_,rfl,by simp only [YN];exact hI.store (9,10,bv u,bv z32) (by simp) d9 hV _ (by simp) (by simp) rfl (show (bv u).length=(bv z32).length by rw [ae,ae,Hu.out.len,cr.len]) (by simp)⟩)
     intro Wh dWh VWh hal hI
     have BWh:Hid (Below Wg.heap.size Wg Wh):=hI.be
     have hs0:VWh 0 = .agg (bv T).toArray:=hI.kn 0 _ rfl (hal 0 (by decide))
     have hs1:VWh 1 = .agg CB.toArray:=hI.kn 1 _ rfl (hal 1 (by decide))
     have hs2:VWh 2=qv PS:=hI.kn 2 _ rfl (hal 2 (by decide))
     have hs3:VWh 3 = .agg (bv X).toArray:=hI.kn 3 _ rfl (hal 3 (by decide))
     have hs4:VWh 4 = .agg CA.toArray:=hI.kn 4 _ rfl (hal 4 (by decide))
     have hs5:VWh 5=qv PK:=hI.kn 5 _ rfl (hal 5 (by decide))
     have hs6:VWh 6=qv PM:=hI.kn 6 _ rfl (hal 6 (by decide))
     have hs7:VWh 7=qv PD:=hI.kn 7 _ rfl (hal 7 (by decide))
     have hs8:VWh 8 = .agg (bv u).toArray:=hI.kn 8 _ rfl (hal 8 (by decide))
     obtain ⟨b9,hs9,hb9,hl9,-,hr9⟩:=hI.pt (9,10,bv u,bv z32) (by simp) (hal 9 (by decide))
     have hs9:VWh 9 = .pointer (some ⟨b9,0,none⟩):=hs9
     have R9Wh:Hid (Wh.rangeAt b9 0 (bv u)):=by have h9:dWh 10=true:=hal 10 (by decide);simp only [h9,if_true] at hr9;exact hr9
     have L9Wh:Hid (b9<Wh.heap.size):=hl9
     have G9Wh:Hid (Wg.heap.size≤b9):=hb9
     simp only [RU.lay,Act.put,hs0,hs1,hs2,hs3,hs4,hs5,hs6,hs7,hs8,hs9]
     simp only [qA,qB,qC]
     clear hI hal hs0 hs1 hs2 hs3 hs4 hs5 hs6 hs7 hs8 hs9 hb9 hl9 hr9
     have RAh:Hid (Wh.rangeAt (D) 0 (bv ky)):=aa RAg.out BWh.out LAg.out
     have LAh:Hid (D<Wh.heap.size):=YI LAg.out BWh.out.size
     have ROh:Hid (Wh.rangeAt (e10) 0 (bv OV)):=aa ROg.out BWh.out LOg.out
     have LOh:Hid (e10<Wh.heap.size):=YI LOg.out BWh.out.size
     have RIh:Hid (Wh.rangeAt (e12) 0 (bv I0)):=aa RIg.out BWh.out LIg.out
     have LIh:Hid (e12<Wh.heap.size):=YI LIg.out BWh.out.size
     have RGh:Hid (Wh.rangeAt (b14) 0 (bv G)):=aa RGg.out BWh.out LGg.out
     have LGh:Hid (b14<Wh.heap.size):=YI LGg.out BWh.out.size
     have RXh:Hid (Wh.rangeAt (b14+1) 0 (bv X)):=aa RXg.out BWh.out LXg.out
     have LXh:Hid (b14+1<Wh.heap.size):=YI LXg.out BWh.out.size
     have RTh:Hid (Wh.rangeAt (b14+1+1) 0 (bv T)):=aa RTg.out BWh.out LTg.out
     have LTh:Hid (b14+1+1<Wh.heap.size):=YI LTg.out BWh.out.size
     clear RAg LAg ROg LOg RIg LIg RGg LGg RXg LXg RTg LTg
     have RHh:Hid (Wh.rangeAt (e19) 0 CH):=aa RHg.out BWh.out LHg.out
     have LHh:Hid (e19<Wh.heap.size):=YI LHg.out BWh.out.size
     have RCh:Hid (Wh.rangeAt (e21) 0 CG):=aa RCg.out BWh.out LCg.out
     have LCh:Hid (e21<Wh.heap.size):=YI LCg.out BWh.out.size
     clear RHg LHg RCg LCg
     have Ruh:Hid (Wh.rangeAt b9 0 (bv u)):=R9Wh
     have Luh:Hid (b9<Wh.heap.size):=L9Wh
     have BUh:Hid (Below U.heap.size U Wh):=Below.tr' BUg.out BWh.out
     clear BWh BUg R9Wh L9Wh G9Wh
     go_upto_region 14 with (fail)
     refine RG.wp_rgn' (GI Wh (MQ b14 e19 e21 T X v2 CH CG QS QK QM QD) (fun _ _ _=>True) [(9,10,bv v2,bv z32)]) (by kernel_rfl) (by kernel_rfl) GI.start ?_ ?_
     ·refine ⟨?_,?_,?_,?_,?_,?_,?_,?_,?_,?_,?_,trivial⟩
      ·intro a W d V hI hd hpx hbk hf hp
       have hO':Below Wh.heap.size Wh W:=hI.be
       have q16:a.eval (.tmp 16) = .pointer (some ⟨b14+1+1,0,none⟩):=hf 16 rfl
       exact RU.ob_op rfl (RU.wanted_none rfl) (wp_load_mid 22 (.tmp 16) rfl (b14+1+1) (0) q16 (bv T) _ (aa RTh.out hO' LTh.out) Tryz.underlying22 rfl (aD HT.out) ⟨_,rfl,hI.step (fun _ _ _ _ _ _=>trivial) (Below.refl _ _) 0 _ (by simp) (fun u hu=>by first | (cases hu;rfl) | cases hu) (trivial)⟩)
      ·intro a W d V hI hd hpx hbk hf hp
       have hO':Below Wh.heap.size Wh W:=hI.be
       have q19:a.eval (.tmp 19) = .pointer (some ⟨e19,0,none⟩):=hf 19 rfl
       exact RU.ob_op rfl (RU.wanted_none rfl) (wp_load_mid 70 (.tmp 19) rfl (e19) (0) q19 (CH) _ (aa RHh.out hO' LHh.out) Tryz.underlying70 rfl (by rw [HCHL.out];exact fN) ⟨_,rfl,hI.step (fun _ _ _ _ _ _=>trivial) (Below.refl _ _) 1 _ (by simp) (fun u hu=>by first | (cases hu;rfl) | cases hu) (trivial)⟩)
      ·intro a W d V hI hd hpx hbk hf hp
       have hO':Below Wh.heap.size Wh W:=hI.be
       have e91:a.eval (.tmp 91) = .agg (bv T).toArray:=(hp 0 91 rfl).trans (hI.kn 0 _ rfl (hpx 0 rfl))
       have e92:a.eval (.tmp 92) = .agg CH.toArray:=(hp 1 92 rfl).trans (hI.kn 1 _ rfl (hpx 1 rfl))
       have hno : ∀ x ∈ ([(9,10,bv v2,bv z32)]:List Al),d x.2.1=false:=by simp only [List.mem_cons,List.not_mem_nil,or_false,forall_eq_or_imp,forall_eq];exact hbk 10 rfl
       refine RU.ob_call (g:=49) (args := #[.agg (bv T).toArray,.agg CH.toArray]) rfl (RU.wanted_none rfl) (fun ev he hc => ?_) ((HQS.out W).mono ?_)
       ·have h91:=(he (.tmp 91)).trans e91
        have h92:=(he (.tmp 92)).trans e92
        have hfn:=he (.func 49)
        simp only [qF,qD,qE,execOp,YO,YP]
        simp only [resolve,invoke,Sem.run_bind,Sem.run_pure,Result.andThen_ok,List.map_toArray,List.map_cons,List.map_nil,h91,h92,hfn,Act.eval,hc]
        rfl
       ·rintro e' W2 ⟨rfl,hb2⟩
        exact ⟨_,rfl,⟨_,rfl,hI.step (fun _ _ _ _ _ _=>trivial) hb2 2 _ (by simp) (fun u hu=>by first | (cases hu;rfl) | cases hu) (trivial)⟩⟩
      ·intro a W d V hI hd hpx hbk hf hp
       have hO':Below Wh.heap.size Wh W:=hI.be
       have q15:a.eval (.tmp 15) = .pointer (some ⟨b14+1,0,none⟩):=hf 15 rfl
       exact RU.ob_op rfl (RU.wanted_none rfl) (wp_load_mid 22 (.tmp 15) rfl (b14+1) (0) q15 (bv X) _ (aa RXh.out hO' LXh.out) Tryz.underlying22 rfl (aD HX.out) ⟨_,rfl,hI.step (fun _ _ _ _ _ _=>trivial) (Below.refl _ _) 3 _ (by simp) (fun u hu=>by first | (cases hu;rfl) | cases hu) (trivial)⟩)
      ·intro a W d V hI hd hpx hbk hf hp
       have hO':Below Wh.heap.size Wh W:=hI.be
       have q21:a.eval (.tmp 21) = .pointer (some ⟨e21,0,none⟩):=hf 21 rfl
       exact RU.ob_op rfl (RU.wanted_none rfl) (wp_load_mid 70 (.tmp 21) rfl (e21) (0) q21 (CG) _ (aa RCh.out hO' LCh.out) Tryz.underlying70 rfl (by rw [HCGL.out];exact fN) ⟨_,rfl,hI.step (fun _ _ _ _ _ _=>trivial) (Below.refl _ _) 4 _ (by simp) (fun u hu=>by first | (cases hu;rfl) | cases hu) (trivial)⟩)
      ·intro a W d V hI hd hpx hbk hf hp
       have hO':Below Wh.heap.size Wh W:=hI.be
       have e94:a.eval (.tmp 94) = .agg (bv X).toArray:=(hp 3 94 rfl).trans (hI.kn 3 _ rfl (hpx 3 rfl))
       have e95:a.eval (.tmp 95) = .agg CG.toArray:=(hp 4 95 rfl).trans (hI.kn 4 _ rfl (hpx 4 rfl))
       have hno : ∀ x ∈ ([(9,10,bv v2,bv z32)]:List Al),d x.2.1=false:=by simp only [List.mem_cons,List.not_mem_nil,or_false,forall_eq_or_imp,forall_eq];exact hbk 10 rfl
       refine RU.ob_call (g:=49) (args := #[.agg (bv X).toArray,.agg CG.toArray]) rfl (RU.wanted_none rfl) (fun ev he hc => ?_) ((HQK.out W).mono ?_)
       ·have h94:=(he (.tmp 94)).trans e94
        have h95:=(he (.tmp 95)).trans e95
        have hfn:=he (.func 49)
        simp only [qF,qD,qE,execOp,YO,YP]
        simp only [resolve,invoke,Sem.run_bind,Sem.run_pure,Result.andThen_ok,List.map_toArray,List.map_cons,List.map_nil,h94,h95,hfn,Act.eval,hc]
        rfl
       ·rintro e' W2 ⟨rfl,hb2⟩
        exact ⟨_,rfl,⟨_,rfl,hI.step (fun _ _ _ _ _ _=>trivial) hb2 5 _ (by simp) (fun u hu=>by first | (cases hu;rfl) | cases hu) (trivial)⟩⟩
      ·intro a W d V hI hd hpx hbk hf hp
       have hO':Below Wh.heap.size Wh W:=hI.be
       have e96:a.eval (.tmp 96)=qv QK:=(hp 5 96 rfl).trans (hI.kn 5 _ rfl (hpx 5 rfl))
       have hno : ∀ x ∈ ([(9,10,bv v2,bv z32)]:List Al),d x.2.1=false:=by simp only [List.mem_cons,List.not_mem_nil,or_false,forall_eq_or_imp,forall_eq];exact hbk 10 rfl
       refine RU.ob_call (g:=50) (args := #[qv QK]) rfl (RU.wanted_none rfl) (fun ev he hc => ?_) ((HQM.out W).mono ?_)
       ·have h96:=(he (.tmp 96)).trans e96
        have hfn:=he (.func 50)
        simp only [qF,qD,qE,execOp,YO,YP]
        simp only [resolve,invoke,Sem.run_bind,Sem.run_pure,Result.andThen_ok,List.map_toArray,List.map_cons,List.map_nil,h96,hfn,Act.eval,hc]
        rfl
       ·rintro e' W2 ⟨rfl,hb2⟩
        exact ⟨_,rfl,⟨_,rfl,hI.step (fun _ _ _ _ _ _=>trivial) hb2 6 _ (by simp) (fun u hu=>by first | (cases hu;rfl) | cases hu) (trivial)⟩⟩
      ·intro a W d V hI hd hpx hbk hf hp
       have hO':Below Wh.heap.size Wh W:=hI.be
       have e93:a.eval (.tmp 93)=qv QS:=(hp 2 93 rfl).trans (hI.kn 2 _ rfl (hpx 2 rfl))
       have e97:a.eval (.tmp 97)=qv QM:=(hp 6 97 rfl).trans (hI.kn 6 _ rfl (hpx 6 rfl))
       have hno : ∀ x ∈ ([(9,10,bv v2,bv z32)]:List Al),d x.2.1=false:=by simp only [List.mem_cons,List.not_mem_nil,or_false,forall_eq_or_imp,forall_eq];exact hbk 10 rfl
       refine RU.ob_call (g:=48) (args := #[qv QS,qv QM]) rfl (RU.wanted_none rfl) (fun ev he hc => ?_) ((HQD.out W).mono ?_)
       ·have h93:=(he (.tmp 93)).trans e93
        have h97:=(he (.tmp 97)).trans e97
        have hfn:=he (.func 48)
        simp only [qF,qD,qE,execOp,YO,YP]
        simp only [resolve,invoke,Sem.run_bind,Sem.run_pure,Result.andThen_ok,List.map_toArray,List.map_cons,List.map_nil,h93,h97,hfn,Act.eval,hc]
        rfl
       ·rintro e' W2 ⟨rfl,hb2⟩
        exact ⟨_,rfl,⟨_,rfl,hI.step (fun _ _ _ _ _ _=>trivial) hb2 7 _ (by simp) (fun u hu=>by first | (cases hu;rfl) | cases hu) (trivial)⟩⟩
      ·intro a W d V hI hd hpx hbk hf hp
       have hO':Below Wh.heap.size Wh W:=hI.be
       have e98:a.eval (.tmp 98)=qv QD:=(hp 7 98 rfl).trans (hI.kn 7 _ rfl (hpx 7 rfl))
       have hno : ∀ x ∈ ([(9,10,bv v2,bv z32)]:List Al),d x.2.1=false:=by simp only [List.mem_cons,List.not_mem_nil,or_false,forall_eq_or_imp,forall_eq];exact hbk 10 rfl
       refine RU.ob_call (g:=47) (args := #[qv QD]) rfl (RU.wanted_none rfl) (fun ev he hc => ?_) ((HQE.out W).mono ?_)
       ·have h98:=(he (.tmp 98)).trans e98
        have hfn:=he (.func 47)
        simp only [qF,qD,qE,execOp,YO,YP]
        simp only [resolve,invoke,Sem.run_bind,Sem.run_pure,Result.andThen_ok,List.map_toArray,List.map_cons,List.map_nil,h98,hfn,Act.eval,hc]
        rfl
       ·rintro e' W2 ⟨rfl,hb2⟩
        exact ⟨_,rfl,⟨_,rfl,hI.step (fun _ _ _ _ _ _=>trivial) hb2 8 _ (by simp) (fun u hu=>by first | (cases hu;rfl) | cases hu) (trivial)⟩⟩
      ·intro a W d V hI hd hpx hbk hf hp
       have hO':Below Wh.heap.size Wh W:=hI.be
       refine RU.ob_run (v := .pointer (some ⟨W.heap.size,0,none⟩)) (w':=W.alloc (.cells (bv z32).toArray 22)) rfl (RU.wanted_none rfl) (fun ev he hc => ?_) ⟨_,rfl,hI.alloc (fun _ _ _ _ _ _=>trivial) (9,10,bv v2,bv z32) (by simp) 22 (hbk 10 rfl) (by simp) (by simp) rfl (fun _ _=>trivial)⟩
       simp only [qF,qD,qE,execOp]
       first | (go_simp;done) | (go_simp;rfl) | (go_simp;rw [HZE.out])
      ·intro a W d V hI hd hpx hbk hf hp
       have hO':Below Wh.heap.size Wh W:=hI.be
       have d9:d 9=true:=hpx 9 rfl
       obtain ⟨b,hV,-,-,hth,-⟩:=hI.pt (9,10,bv v2,bv z32) (by simp) d9
       have qp:a.eval (.tmp 26) = .pointer (some ⟨b,0,none⟩):=(hp 9 26 rfl).trans hV
       have qv:a.eval (.tmp 99) = .agg (bv v2).toArray:=(hp 8 99 rfl).trans (hI.kn 8 _ rfl (hpx 8 rfl))
       exact RU.ob_op rfl (RU.wanted_none rfl) (wp_store_mid 22 (.tmp 26) (.tmp 99) rfl b 0 (bv v2).toArray qp qv (by rw [List.size_toArray,(show (bv v2).length=(bv z32).length by rw [ae,ae,Hv2.out.len,cr.len])];exact hth) (by rw [List.size_toArray];exact aD Hv2.out) (ar _) ⟨_,rfl,by simp only [YN];exact hI.store (9,10,bv v2,bv z32) (by simp) d9 hV _ (by simp) (by simp) rfl (show (bv v2).length=(bv z32).length by rw [ae,ae,Hv2.out.len,cr.len]) (by simp)⟩)
     intro Wi dWi VWi hal hI
     have BWi:Hid (Below Wh.heap.size Wh Wi):=hI.be
     have hs0:VWi 0 = .agg (bv T).toArray:=hI.kn 0 _ rfl (hal 0 (by decide))
     have hs1:VWi 1 = .agg CH.toArray:=hI.kn 1 _ rfl (hal 1 (by decide))
     have hs2:VWi 2=qv QS:=hI.kn 2 _ rfl (hal 2 (by decide))
     have hs3:VWi 3 = .agg (bv X).toArray:=hI.kn 3 _ rfl (hal 3 (by decide))
     have hs4:VWi 4 = .agg CG.toArray:=hI.kn 4 _ rfl (hal 4 (by decide))
     have hs5:VWi 5=qv QK:=hI.kn 5 _ rfl (hal 5 (by decide))
     have hs6:VWi 6=qv QM:=hI.kn 6 _ rfl (hal 6 (by decide))
     have hs7:VWi 7=qv QD:=hI.kn 7 _ rfl (hal 7 (by decide))
     have hs8:VWi 8 = .agg (bv v2).toArray:=hI.kn 8 _ rfl (hal 8 (by decide))
     obtain ⟨b9i,hs9,hb9i,hl9,-,hr9⟩:=hI.pt (9,10,bv v2,bv z32) (by simp) (hal 9 (by decide))
     have hs9:VWi 9 = .pointer (some ⟨b9i,0,none⟩):=hs9
     have R9Wi:Hid (Wi.rangeAt b9i 0 (bv v2)):=by have h9:dWi 10=true:=hal 10 (by decide);simp only [h9,if_true] at hr9;exact hr9
     have L9Wi:Hid (b9i<Wi.heap.size):=hl9
     have G9Wi:Hid (Wh.heap.size≤b9i):=hb9i
     simp only [RU.lay,Act.put,hs0,hs1,hs2,hs3,hs4,hs5,hs6,hs7,hs8,hs9]
     simp only [qA,qB,qC]
     clear hI hal hs0 hs1 hs2 hs3 hs4 hs5 hs6 hs7 hs8 hs9 hb9i hl9 hr9
     have RAi:Hid (Wi.rangeAt (D) 0 (bv ky)):=aa RAh.out BWi.out LAh.out
     have LAi:Hid (D<Wi.heap.size):=YI LAh.out BWi.out.size
     have ROi:Hid (Wi.rangeAt (e10) 0 (bv OV)):=aa ROh.out BWi.out LOh.out
     have LOi:Hid (e10<Wi.heap.size):=YI LOh.out BWi.out.size
     have RIi:Hid (Wi.rangeAt (e12) 0 (bv I0)):=aa RIh.out BWi.out LIh.out
     have LIi:Hid (e12<Wi.heap.size):=YI LIh.out BWi.out.size
     have RGi:Hid (Wi.rangeAt (b14) 0 (bv G)):=aa RGh.out BWi.out LGh.out
     have LGi:Hid (b14<Wi.heap.size):=YI LGh.out BWi.out.size
     have RXi:Hid (Wi.rangeAt (b14+1) 0 (bv X)):=aa RXh.out BWi.out LXh.out
     have LXi:Hid (b14+1<Wi.heap.size):=YI LXh.out BWi.out.size
     have Rui:Hid (Wi.rangeAt (b9) 0 (bv u)):=aa Ruh.out BWi.out Luh.out
     have Lui:Hid (b9<Wi.heap.size):=YI Luh.out BWi.out.size
     clear RAh LAh ROh LOh RIh LIh RGh LGh RXh LXh Ruh Luh
     have Rvi:Hid (Wi.rangeAt b9i 0 (bv v2)):=R9Wi
     have Lvi:Hid (b9i<Wi.heap.size):=L9Wi
     have BUi:Hid (Below U.heap.size U Wi):=Below.tr' BUh.out BWi.out
     clear BWi BUh R9Wi L9Wi G9Wi
     go_upto_region 15 with (fail)
     refine RG.wp_rgn' (GI Wi (Nb D e12 b14 b9 b9i ky I0 G u v2 Q X) (fun _ _ _=>True) []) (by kernel_rfl) (by kernel_rfl) GI.start ?_ ?_
     ·refine ⟨?_,?_,?_,?_,?_,?_,?_,?_,trivial⟩
      ·intro a W d V hI hd hpx hbk hf hp
       have hO':Below Wi.heap.size Wi W:=hI.be
       have q3:a.eval (.tmp 3) = .pointer (some ⟨D,0,none⟩):=hf 3 rfl
       exact RU.ob_op rfl (RU.wanted_none rfl) (wp_load_mid 22 (.tmp 3) rfl (D) (0) q3 (bv ky) _ (aa RAi.out hO' LAi.out) Tryz.underlying22 rfl (aD HA.out) ⟨_,rfl,hI.step (fun _ _ _ _ _ _=>trivial) (Below.refl _ _) 0 _ (by simp) (fun u hu=>by first | (cases hu;rfl) | cases hu) (trivial)⟩)
      ·intro a W d V hI hd hpx hbk hf hp
       have hO':Below Wi.heap.size Wi W:=hI.be
       have q12:a.eval (.tmp 12) = .pointer (some ⟨e12,0,none⟩):=hf 12 rfl
       exact RU.ob_op rfl (RU.wanted_none rfl) (wp_load_mid 22 (.tmp 12) rfl (e12) (0) q12 (bv I0) _ (aa RIi.out hO' LIi.out) Tryz.underlying22 rfl (aD HI.out) ⟨_,rfl,hI.step (fun _ _ _ _ _ _=>trivial) (Below.refl _ _) 1 _ (by simp) (fun u hu=>by first | (cases hu;rfl) | cases hu) (trivial)⟩)
      ·intro a W d V hI hd hpx hbk hf hp
       have hO':Below Wi.heap.size Wi W:=hI.be
       have q14:a.eval (.tmp 14) = .pointer (some ⟨b14,0,none⟩):=hf 14 rfl
       exact RU.ob_op rfl (RU.wanted_none rfl) (wp_load_mid 22 (.tmp 14) rfl (b14) (0) q14 (bv G) _ (aa RGi.out hO' LGi.out) Tryz.underlying22 rfl (aD HG.out) ⟨_,rfl,hI.step (fun _ _ _ _ _ _=>trivial) (Below.refl _ _) 2 _ (by simp) (fun u hu=>by first | (cases hu;rfl) | cases hu) (trivial)⟩)
      ·intro a W d V hI hd hpx hbk hf hp
       have hO':Below Wi.heap.size Wi W:=hI.be
       have q25:a.eval (.tmp 25) = .pointer (some ⟨b9,0,none⟩):=hf 25 rfl
       exact RU.ob_op rfl (RU.wanted_none rfl) (wp_load_mid 22 (.tmp 25) rfl (b9) (0) q25 (bv u) _ (aa Rui.out hO' Lui.out) Tryz.underlying22 rfl (aD Hu.out) ⟨_,rfl,hI.step (fun _ _ _ _ _ _=>trivial) (Below.refl _ _) 3 _ (by simp) (fun u hu=>by first | (cases hu;rfl) | cases hu) (trivial)⟩)
      ·intro a W d V hI hd hpx hbk hf hp
       have hO':Below Wi.heap.size Wi W:=hI.be
       have q26:a.eval (.tmp 26) = .pointer (some ⟨b9i,0,none⟩):=hf 26 rfl
       exact RU.ob_op rfl (RU.wanted_none rfl) (wp_load_mid 22 (.tmp 26) rfl (b9i) (0) q26 (bv v2) _ (aa Rvi.out hO' Lvi.out) Tryz.underlying22 rfl (aD Hv2.out) ⟨_,rfl,hI.step (fun _ _ _ _ _ _=>trivial) (Below.refl _ _) 4 _ (by simp) (fun u hu=>by first | (cases hu;rfl) | cases hu) (trivial)⟩)
      ·intro a W d V hI hd hpx hbk hf hp
       have hO':Below Wi.heap.size Wi W:=hI.be
       have e100:a.eval (.tmp 100) = .agg (bv ky).toArray:=(hp 0 100 rfl).trans (hI.kn 0 _ rfl (hpx 0 rfl))
       have e101:a.eval (.tmp 101) = .agg (bv I0).toArray:=(hp 1 101 rfl).trans (hI.kn 1 _ rfl (hpx 1 rfl))
       have e102:a.eval (.tmp 102) = .agg (bv G).toArray:=(hp 2 102 rfl).trans (hI.kn 2 _ rfl (hpx 2 rfl))
       have e103:a.eval (.tmp 103) = .agg (bv u).toArray:=(hp 3 103 rfl).trans (hI.kn 3 _ rfl (hpx 3 rfl))
       have e104:a.eval (.tmp 104) = .agg (bv v2).toArray:=(hp 4 104 rfl).trans (hI.kn 4 _ rfl (hpx 4 rfl))
       have hno : ∀ x ∈ ([]:List Al),d x.2.1=false:=by simp
       refine RU.ob_call (g:=32) (args := #[.agg (bv ky).toArray,.agg (bv I0).toArray,.agg (bv G).toArray,.agg (bv u).toArray,.agg (bv v2).toArray]) rfl (RU.wanted_none rfl) (fun ev he hc => ?_) ((HCH.out W).mono ?_)
       ·have h100:=(he (.tmp 100)).trans e100
        have h101:=(he (.tmp 101)).trans e101
        have h102:=(he (.tmp 102)).trans e102
        have h103:=(he (.tmp 103)).trans e103
        have h104:=(he (.tmp 104)).trans e104
        have hfn:=he (.func 32)
        simp only [qF,qD,qE,execOp,YO,YP]
        simp only [resolve,invoke,Sem.run_bind,Sem.run_pure,Result.andThen_ok,List.map_toArray,List.map_cons,List.map_nil,h100,h101,h102,h103,h104,hfn,Act.eval,hc]
        rfl
       ·rintro e' W2 ⟨rfl,hb2⟩
        exact ⟨_,rfl,⟨_,rfl,hI.step (fun _ _ _ _ _ _=>trivial) hb2 5 _ (by simp) (fun u hu=>by first | (cases hu;rfl) | cases hu) (trivial)⟩⟩
      ·intro a W d V hI hd hpx hbk hf hp
       have hO':Below Wi.heap.size Wi W:=hI.be
       have q15:a.eval (.tmp 15) = .pointer (some ⟨b14+1,0,none⟩):=hf 15 rfl
       exact RU.ob_op rfl (RU.wanted_none rfl) (wp_load_mid 22 (.tmp 15) rfl (b14+1) (0) q15 (bv X) _ (aa RXi.out hO' LXi.out) Tryz.underlying22 rfl (aD HX.out) ⟨_,rfl,hI.step (fun _ _ _ _ _ _=>trivial) (Below.refl _ _) 6 _ (by simp) (fun u hu=>by first | (cases hu;rfl) | cases hu) (trivial)⟩)
      ·intro a W d V hI hd hpx hbk hf hp
       have hO':Below Wi.heap.size Wi W:=hI.be
       refine RU.ob_val (v := .bool (!decide (Q=X))) rfl (RU.wanted_none rfl) (fun ev he hc => ?_) ⟨_,rfl,hI.step (fun _ _ _ _ _ _=>trivial) (Below.refl _ _) 7 _ (by simp) (fun u hu=>by first | (cases hu;rfl) | cases hu) (trivial)⟩
       have q105:ev (.tmp 105) = .agg (bv Q).toArray:=(he (.tmp 105)).trans ((hp 5 105 rfl).trans (hI.kn 5 _ rfl (hpx 5 rfl)))
       have q106:ev (.tmp 106) = .agg (bv X).toArray:=(he (.tmp 106)).trans ((hp 6 106 rfl).trans (hI.kn 6 _ rfl (hpx 6 rfl)))
       simp only [qF,qD,qE,execOp,YO,YP];rw [q105,q106]
       simp only [Sem.run_bind,xC,yf HQ.out HX.out,Result.andThen_ok,Sem.run_pure]
     intro Wj dWj VWj hal hI
     have BWj:Hid (Below Wi.heap.size Wi Wj):=hI.be
     have hs0:VWj 0 = .agg (bv ky).toArray:=hI.kn 0 _ rfl (hal 0 (by decide))
     have hs1:VWj 1 = .agg (bv I0).toArray:=hI.kn 1 _ rfl (hal 1 (by decide))
     have hs2:VWj 2 = .agg (bv G).toArray:=hI.kn 2 _ rfl (hal 2 (by decide))
     have hs3:VWj 3 = .agg (bv u).toArray:=hI.kn 3 _ rfl (hal 3 (by decide))
     have hs4:VWj 4 = .agg (bv v2).toArray:=hI.kn 4 _ rfl (hal 4 (by decide))
     have hs5:VWj 5 = .agg (bv Q).toArray:=hI.kn 5 _ rfl (hal 5 (by decide))
     have hs6:VWj 6 = .agg (bv X).toArray:=hI.kn 6 _ rfl (hal 6 (by decide))
     have hs7:VWj 7 = .bool (!decide (Q=X)):=hI.kn 7 _ rfl (hal 7 (by decide))
     simp only [RU.lay,Act.put,hs0,hs1,hs2,hs3,hs4,hs5,hs6,hs7]
     simp only [qA,qB,qC]
     clear hI hal hs0 hs1 hs2 hs3 hs4 hs5 hs6 hs7
     have ROj:Hid (Wj.rangeAt (e10) 0 (bv OV)):=aa ROi.out BWj.out LOi.out
     have LOj:Hid (e10<Wj.heap.size):=YI LOi.out BWj.out.size
     clear ROi LOi
     have BUj:Hid (Below U.heap.size U Wj):=Below.tr' BUi.out BWj.out
     clear BUi BWj
     by_cases hq:Q=X
     ·rw [decide_eq_true hq]
      have HF:Hid (vyE ky p x=0):=by show _=_;rw [HEB5.out,if_pos hq]
      have HV2:Hid (vyV ky p x=OV):=HOK.out HF.out
      have THd:Hid _:=an THR.out BUj.out LTR.out
      clear hq HEB5
      go_wp2_with (first
       | (refine wpList_load_mid rfl 29 (.tmp 10) rfl (e10) 0 rfl (bv OV) _ ROj.out Tryz.underlying29 rfl (by rw [ae,HOV.out];exact aR) ?_)
       | (refine wpList_store_mid rfl 29 (.tmp 6) (.tmp 109) rfl (D+2) 0 (bv OV).toArray rfl rfl (aK (HOV.out) (THd.out)) (aC (HOV.out) aR) (ar _) ?_;simp only [YN]))
      have qq:(Wj.setCells (D+2) 0 (bv OV)).rangeAt (D+2) 0 (bv OV):=World.rangeAt_setCells_same _ _ _ _ (by rw [ae,HOV.out];exact THd.out)
      have hbl:Below w.heap.size w (Wj.setCells (D+2) 0 (bv OV)):=af (by rw [HD.out];omega) _ _ (BU.out.trans (BUj.out.mono BU.out.size))
      try simp only [Exit.inBlock,Exit.then]
      refine bodyPost_ret (v := .tuple #[.agg (bv OV).toArray,.int .i64 0]) ?_ rfl ⟨by rw [HV2.out,HF.out],hbl⟩
      exact au Tryz.results14 _ _ (D+2) 0 (bv OV) _ _ rfl rfl qq Tryz.underlying29 rfl (by rw [ae,HOV.out];exact aR)
     ·rw [decide_eq_false hq]
      have HF:Hid (vyE ky p x=3):=by show _=_;rw [HEB5.out,if_neg hq]
      clear hq HEB5
      have THd:Hid _:=an THR.out BUj.out LTR.out
      have HV2:Hid (vyV ky p x=E0):=HNO.out _ HF.out (by decide)
      go_wp2_with (first
       | (refine bm 29 rfl rfl _ (HBZ.out _) ?_)
       | (refine wpList_store_mid rfl 29 (.tmp 6) (.tmp 108) rfl (D+2) 0 (bv E0).toArray rfl rfl (aK (HE.out) (THd.out)) (aC (HE.out) aR) (ar _) ?_;simp only [YN]))
      have qq:(Wj.setCells (D+2) 0 (bv E0)).rangeAt (D+2) 0 (bv E0):=World.rangeAt_setCells_same _ _ _ _ (by rw [ae,HE.out];exact THd.out)
      have hbl:Below w.heap.size w (Wj.setCells (D+2) 0 (bv E0)):=af (by rw [HD.out];omega) _ _ (BU.out.trans (BUj.out.mono BU.out.size))
      try simp only [Exit.inBlock,Exit.then]
      refine bodyPost_ret (v := .tuple #[.agg (bv E0).toArray,.int .i64 3]) ?_ rfl ⟨by rw [HV2.out,HF.out],hbl⟩
      exact au Tryz.results14 _ _ (D+2) 0 (bv E0) _ _ rfl rfl qq Tryz.underlying29 rfl (by rw [ae,HE.out];exact aR)
   ·subst hoe
    have HF:Hid (vyE ky p x=2):=by show _=_;rw [HEB2.out,if_pos (by decide)]
    clear HEB2
    have THd:Hid _:=an THR.out BU3.out LTR.out
    have HV2:Hid (vyV ky p x=E0):=HNO.out _ HF.out (by decide)
    go_wp2_with (first
     | (refine bm 29 rfl rfl _ (HBZ.out _) ?_)
     | (refine wpList_store_mid rfl 29 (.tmp 6) (.tmp 46) rfl (D+2) 0 (bv E0).toArray rfl rfl (aK (HE.out) (THd.out)) (aC (HE.out) aR) (ar _) ?_;simp only [YN]))
    have qq:(W3.setCells (D+2) 0 (bv E0)).rangeAt (D+2) 0 (bv E0):=World.rangeAt_setCells_same _ _ _ _ (by rw [ae,HE.out];exact THd.out)
    have hbl:Below w.heap.size w (W3.setCells (D+2) 0 (bv E0)):=af (by rw [HD.out];omega) _ _ (BU.out.trans (BU3.out.mono BU.out.size))
    try simp only [Exit.inBlock,Exit.then]
    refine bodyPost_ret (v := .tuple #[.agg (bv E0).toArray,.int .i64 2]) ?_ rfl ⟨by rw [HV2.out,HF.out],hbl⟩
    exact au Tryz.results14 _ _ (D+2) 0 (bv E0) _ _ rfl rfl qq Tryz.underlying29 rfl (by rw [ae,HE.out];exact aR)
 ·have HF:Hid (vyE ky p x=2):=HEA.out (.inl h0)
  have THd:Hid _:=an THR.out BU3.out LTR.out
  have HV2:Hid (vyV ky p x=E0):=HNO.out _ HF.out (by decide)
  go_wp2_with (first
   | (refine bm 29 rfl rfl _ (HBZ.out _) ?_)
   | (refine wpList_store_mid rfl 29 (.tmp 6) (.tmp 46) rfl (D+2) 0 (bv E0).toArray rfl rfl (aK (HE.out) (THd.out)) (aC (HE.out) aR) (ar _) ?_;simp only [YN]))
  have qq:(W3.setCells (D+2) 0 (bv E0)).rangeAt (D+2) 0 (bv E0):=World.rangeAt_setCells_same _ _ _ _ (by rw [ae,HE.out];exact THd.out)
  have hbl:Below w.heap.size w (W3.setCells (D+2) 0 (bv E0)):=af (by rw [HD.out];omega) _ _ (BU.out.trans (BU3.out.mono BU.out.size))
  try simp only [Exit.inBlock,Exit.then]
  refine bodyPost_ret (v := .tuple #[.agg (bv E0).toArray,.int .i64 2]) ?_ rfl ⟨by rw [HV2.out,HF.out],hbl⟩
  exact au Tryz.results14 _ _ (D+2) 0 (bv E0) _ _ rfl rfl qq Tryz.underlying29 rfl (by rw [ae,HE.out];exact aR)
end Go.Proofs.YtajehiidpecknaaGreatDoor.Wi
