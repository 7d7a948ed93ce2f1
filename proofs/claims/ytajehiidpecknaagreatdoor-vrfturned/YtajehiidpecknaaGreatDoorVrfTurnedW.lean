import Derived.Test.YtajehiidpecknaaGreatDoorVrL
import Derived.Test.YtajehiidpecknaaGreatDoorVrP
import Derived.Test.YtajehiidpecknaaGreatDoorVrQ
import Derived.Test.YtajehiidpecknaaGreatDoorVrR
import Derived.Test.YtajehiidpecknaaGreatDoorVrS
set_option linter.all false
namespace Go.Proofs.YtajehiidpecknaaGreatDoor.Wi
open Go Go.RowKit
set_option maxRecDepth 100000
theorem zm {x:List Int} (h:Byt x) (i:Nat) {z:Int} (hz:0≤z∧z≤255):Byt (x.set i z):=fun y hy=>by
 rcases List.mem_or_eq_of_mem_set hy with hy | rfl
 ·exact h y hy
 ·exact hz
theorem Dn (ax:Int):0≤IntKind.u64.wrap ax:=by
 unfold IntKind.wrap;simp only [IntKind.signed,Bool.false_and,Bool.false_eq_true,if_false];exact Int.emod_nonneg _ (by decide)
theorem KM (ax:Int) : ∃ m:Nat,m<640∧wrap64 ((IntKind.u64.wrap ax).tmod 640)=(m:Int):=by
 have h0:=Dn ax
 rw [Int.tmod_eq_emod_of_nonneg h0]
 refine ⟨(IntKind.u64.wrap ax % 640).toNat,by omega,?_⟩
 unfold Go.RowKit.wrap64;omega
theorem K5 (ax:Int):wrap64 ((IntKind.u64.wrap ax).tmod 3)=0∨wrap64 ((IntKind.u64.wrap ax).tmod 3)=1∨wrap64 ((IntKind.u64.wrap ax).tmod 3)=2:=by
 have h0:=Dn ax
 rw [Int.tmod_eq_emod_of_nonneg h0];unfold Go.RowKit.wrap64;omega
theorem MT (m:Int):0≤IntKind.u8.wrap m∧IntKind.u8.wrap m≤255:=by rw [IntKind.wrap_u8];omega
def Pk (e9 e11:Nat) (v:Value) (W1 W4 W9:World):Prop :=
 ∃ A' x' p',L32 A'∧x'.length=80∧Byt x'∧Byt p'∧p'.length≤140737488353000∧W9.rangeAt e11 0 (bv A')∧W9.rangeAt e9 0 (bv x')∧Sl W9 v p'∧Below W1.heap.size W1 W9∧W4.heap.size≤W9.heap.size
set_option maxHeartbeats 8000000 in
theorem we (s p:List Int) (hs:L32 s) (hp:Byt p) (hl:p.length≤140737488352000) (v:Value) (wh ax:Int) (w:World) (hv:Sl w v p) (hg:Glo Ve.MA w) :
  Calls Tryz.prog 6 #[.agg (bv s).toArray,v,.int .i64 wh,.int .i64 ax] w fun e w'=>e = .returned (.bool true)∧Below w.heap.size w w':=by
 have HA:Hid (L32 s):=hs
 have HP:Hid (Byt p):=hp
 have HPL:Hid (p.length≤140737488352000):=hl
 have HVW:Hid (Sl w v p):=hv
 obtain ⟨a0,c0,hv0,-,-⟩:=id HVW.out
 obtain ⟨n0,hn0⟩ : ∃ n,p.length=n:=⟨_,rfl⟩
 rw [hn0] at hv0
 subst hv0
 obtain ⟨X,hX⟩ : ∃ z,pvV s p=z:=⟨_,rfl⟩
 obtain ⟨E,hE⟩ : ∃ z,mA (pvI s p)=z:=⟨_,rfl⟩
 obtain ⟨Y,hY⟩ : ∃ z,Bs (Ve.sk s)=z:=⟨_,rfl⟩
 have HYL:Hid (L32 Y):=by rw [←hY];exact L32.bs _
 have HXL:Hid (X.length=80):=by rw [←hX];exact FI _ _
 have HXB:Hid (Byt X):=by rw [←hX];exact Fk _ _
 have HAW:Hid (∀ W,Glo Ve.MA W→Calls Tryz.prog 8 #[] W fun e w'=>e = .returned (.bool true)∧Below W.heap.size W w'):=Bc
 have HPV:Hid (∀ W,Sl W (.slice a0 n0 c0) p→Glo Ve.MA W→Calls Tryz.prog 10 #[.agg (bv s).toArray,.slice a0 n0 c0] W fun e w'=>e = .returned (.tuple #[.agg (bv X).toArray,.int .i64 E])∧Below W.heap.size W w'):=fun W h1 h2=>by rw [←hX,←hE];exact xH s p hs hp (by omega) _ W h1
 have HPB:Hid (∀ W,Calls Tryz.prog 15 #[.agg (bv s).toArray] W fun e w'=>e = .returned (.agg (bv Y).toArray)∧Below W.heap.size W w'):=fun W=>by rw [←hY];exact Dy s hs W
 have hz3:=bG
 obtain ⟨Z3,hZ3⟩ : ∃ Z,(bv (List.replicate 32 0)).toArray=Z:=⟨_,rfl⟩
 have hZs3:Z3.size=32:=by rw [←hZ3];simp [bv]
 have HZ3:Hid (Z3.size=32):=hZs3
 rw [hZ3] at hz3
 clear hZ3 hZs3
 have hz6:=dZ
 obtain ⟨Z6,hZ6⟩ : ∃ Z,(bv (List.replicate 64 0)).toArray=Z:=⟨_,rfl⟩
 have hZs6:Z6.size=64:=by rw [←hZ6];simp [bv]
 have HZ6:Hid (Z6.size=64):=hZs6
 rw [hZ6] at hz6
 clear hZ6 hZs6
 have hz8:=eP
 obtain ⟨Z8,hZ8⟩ : ∃ Z,(bv (List.replicate 80 0)).toArray=Z:=⟨_,rfl⟩
 have hZs8:Z8.size=80:=by rw [←hZ8];simp [bv]
 have HZ8:Hid (Z8.size=80):=hZs8
 rw [hZ8] at hz8
 clear hZ8 hZs8
 obtain ⟨A0,hA0⟩ : ∃ A,(bv s).toArray=A:=⟨_,rfl⟩
 rw [hA0]
 obtain ⟨U,hU⟩ : ∃ U,(w.alloc (.cells A0 22))=U:=⟨_,rfl⟩
 have sU:U.heap.size=w.heap.size+1:=by rw [←hU];simp
 have bU:Below w.heap.size w U:=by rw [←hU];exact ((Below.refl _ w).alloc (by first | exact Nat.le_refl _ | (simp only [World.size_alloc];omega)) _)
 have r0:U.rangeAt (w.heap.size) 0 (bv s):=fun j v hj=>by rw [Nat.zero_add,cell_of_row U _ j _ _ _ (show U.heap[w.heap.size]? = some (.cells A0 22 (0,0)) by rw [←hU];exact aV [.cells A0 22 (0,0)] w.heap 0 _ rfl),←hA0,List.getElem?_toArray];exact hj
 have BU:Hid (Below w.heap.size w U):=bU
 obtain ⟨D,hD⟩ : ∃ D,w.heap.size=D:=⟨_,rfl⟩
 have HD:Hid (w.heap.size=D):=hD
 rw [hD] at sU r0
 have RA:Hid (U.rangeAt (D) 0 (bv s)):=r0
 have LA:Hid (D<U.heap.size):=by show _<_;omega
 clear sU bU r0 hA0
 have HGU:Hid (Glo Ve.MA U):=hg.below BU.out
 clear hg hs hp hl hv hX hE hY
 go_enter Tryz.func6,Tryz.ntmps6
 go_upto_region 1 with (fail)
 try rw [hU]
 try rw [hD]
 clear hU hD
 go_upto_region 3 with (first
  | (go_at_call 8;refine (HAW.out U HGU.out).mono ?_;rintro e W0 ⟨rfl,g1⟩;have BW0:Hid (Below U.heap.size U W0):=g1;clear g1))
 have G0:Hid (Glo Ve.MA W0):=aE HGU.out BW0.out
 have RA0:Hid (W0.rangeAt (D) 0 (bv s)):=aa RA.out BW0.out LA.out
 have LA0:Hid (D<W0.heap.size):=YI LA.out BW0.out.size
 clear RA LA
 have V0:Hid (Sl W0 (.slice a0 n0 c0) p):=HVW.out.below (Below.tr' BU.out BW0.out) (Nat.le_refl _)
 go_upto_region 4 with (first
  | (refine wpList_load_mid rfl 22 (.tmp 4) rfl (D) 0 rfl (bv s) _ RA0.out Tryz.underlying22 rfl (by rw [ae,HA.out.len];exact aF) ?_)
  | (go_at_call 10;refine (HPV.out W0 V0.out G0.out).mono ?_;rintro e W1 ⟨rfl,g1⟩;have BW1:Hid (Below W0.heap.size W0 W1):=g1;clear g1)
  | (refine wpList_store_mid rfl 25 (.tmp 9) (.tmp 23) rfl W1.heap.size 0 (bv X).toArray rfl rfl (bK W1 (HXL.out) HZ8.out) (aC (HXL.out) ct) (ar _) ?_;simp only [YN]))
 obtain ⟨e9,he9⟩ : ∃ n,W1.heap.size=n:=⟨_,rfl⟩
 obtain ⟨W2,hW2⟩ : ∃ W,(W1.alloc (.cells Z8 25)).setCells W1.heap.size 0 (bv X)=W:=⟨_,rfl⟩
 obtain ⟨l1,l2,l3⟩:=aS (by rw [ae,HXL.out,HZ8.out]) (by rw [ae,HXL.out];omega) hW2
 have BW2:Hid (Below W1.heap.size W1 W2):=l2
 have RX2:Hid (W2.rangeAt e9 0 (bv X)):=by rw [←he9];exact l1
 have LX2:Hid (e9<W2.heap.size):=by rw [←he9];exact l3
 have GX2:Hid (W1.heap.size≤e9):=by show _≤_;omega
 have TX2:Hid (W2.there e9 0 80):=by rw [←hW2,←he9];exact World.there_setCells (bM _ HZ8.out.symm) _ _ _
 try rw [hW2]
 try rw [he9]
 clear l1 l2 l3 hW2 he9
 have BA:Hid (Below W0.heap.size W0 W2):=Below.tr' BW1.out BW2.out
 have LXK:Hid (e9<W2.heap.size):=LX2.out
 have RA2:Hid (W2.rangeAt (D) 0 (bv s)):=aa RA0.out BA.out LA0.out
 have LA2:Hid (D<W2.heap.size):=YI LA0.out BA.out.size
 clear RA0 LA0
 have G2:Hid (Glo Ve.MA W2):=aE G0.out BA.out
 go_upto_region 5 with (first
  | (refine wpList_load_mid rfl 22 (.tmp 4) rfl (D) 0 rfl (bv s) _ RA2.out Tryz.underlying22 rfl (by rw [ae,HA.out.len];exact aF) ?_)
  | (go_at_call 15;refine (HPB.out W2).mono ?_;rintro e W3 ⟨rfl,g1⟩;have BW3:Hid (Below W2.heap.size W2 W3):=g1;clear g1)
  | (refine wpList_store_mid rfl 22 (.tmp 11) (.tmp 26) rfl W3.heap.size 0 (bv Y).toArray rfl rfl (bK W3 (HYL.out.len) HZ3.out) (aC (HYL.out.len) aF) (ar _) ?_;simp only [YN]))
 obtain ⟨e11,he11⟩ : ∃ n,W3.heap.size=n:=⟨_,rfl⟩
 obtain ⟨W4,hW4⟩ : ∃ W,(W3.alloc (.cells Z3 22)).setCells W3.heap.size 0 (bv Y)=W:=⟨_,rfl⟩
 obtain ⟨l1,l2,l3⟩:=aS (by rw [ae,HYL.out.len,HZ3.out]) (by rw [ae,HYL.out.len];omega) hW4
 have BW4:Hid (Below W3.heap.size W3 W4):=l2
 have RY4:Hid (W4.rangeAt e11 0 (bv Y)):=by rw [←he11];exact l1
 have LY4:Hid (e11<W4.heap.size):=by rw [←he11];exact l3
 have GY4:Hid (W3.heap.size≤e11):=by show _≤_;omega
 have TY4:Hid (W4.there e11 0 32):=by rw [←hW4,←he11];exact World.there_setCells (bM _ HZ3.out.symm) _ _ _
 try rw [hW4]
 try rw [he11]
 clear l1 l2 l3 hW4 he11
 have BB:Hid (Below W2.heap.size W2 W4):=Below.tr' BW3.out BW4.out
 have RX24:Hid (W4.rangeAt (e9) 0 (bv X)):=aa RX2.out BB.out LX2.out
 have LX24:Hid (e9<W4.heap.size):=YI LX2.out BB.out.size
 clear RX2 LX2
 have BC:Hid (Below w.heap.size w W4):=Below.tr' BU.out (Below.tr' BW0.out (Below.tr' BA.out BB.out))
 have V4:Hid (Sl W4 (.slice a0 n0 c0) p):=HVW.out.below BC.out (Nat.le_refl _)
 go_upto_region 6 with (at_builtin;refine rT (B0:=W4.heap.size) rfl (.tmp 27) (.tmp 28) rfl (by simp) _ [] rfl (Dz W4) _ rfl p (V4.out.below ((Below.refl _ W4).alloc (Nat.le_refl _) _) (Nat.le_refl _)) (by have:=HPL.out;simp;omega) ?_;intro v12 W5 g1 g2 g3 g4;rw [List.nil_append] at g1;have O5:Hid (Ow W4.heap.size W5 v12 p):=g1;have B5:Hid (Below W4.heap.size W4 W5):=((Below.refl _ W4).alloc (Nat.le_refl _) _).trans g3;clear g1 g2 g3 g4)
 go_upto_region 9 with fail
 have SW1:Hid (W0.heap.size≤W1.heap.size):=BW1.out.size
 have B05:Hid (Below W0.heap.size W0 W5):=Below.tr' BA.out (Below.tr' BB.out B5.out)
 have L04:Hid (W2.heap.size≤W3.heap.size∧W3.heap.size≤W4.heap.size∧W1.heap.size≤W2.heap.size):=⟨BW3.out.size,BW4.out.size,BW2.out.size⟩
 have LX4:Hid (e9<W4.heap.size):=YI LXK.out BB.out.size
 have RY5:Hid (W5.rangeAt e11 0 (bv Y)):=aa RY4.out B5.out LY4.out
 have RX5:Hid (W5.rangeAt e9 0 (bv X)):=aa RX24.out B5.out LX4.out
 have L9:Hid (e9<W5.heap.size):=YI LX4.out B5.out.size
 have L11:Hid (e11<W5.heap.size):=YI LY4.out B5.out.size
 have NE:Hid (e11≠e9):=fun e=>by have:=LXK.out;have:=GY4.out;have:=L04.out.1;omega
 have T9:Hid (W5.there e9 0 80):=an (an TX2.out BB.out LXK.out) B5.out LX4.out
 have T11:Hid (W5.there e11 0 32):=an TY4.out B5.out LY4.out
 have G9:Hid (W0.heap.size≤e9):=Nat.le_trans SW1.out GX2.out
 have G11:Hid (W0.heap.size≤e11):=by have:=GY4.out;have:=L04.out;have:=SW1.out;show _≤_;omega
 have HLP:Hid (p.length≤140737488353000):=Nat.le_trans HPL.out (by decide)
 obtain ⟨m,hm,em⟩:=KM ax
 have ek:=K5 wh
 rw [em]
 clear em
 rcases ek with ek | ek | ek <;> rw [ek] <;> clear ek
 case' inl =>
  obtain ⟨j,hj⟩ : ∃ j:Nat,(m:Int)/8=(j:Int):=⟨m/8,by omega⟩
  obtain ⟨r,hr⟩ : ∃ r:Nat,(m:Int) % 8=(r:Int):=⟨m % 8,by omega⟩
  have hj1:j<80:=by omega
  have hr1:r<8:=by omega
  have c0:W5.cell? ⟨e9,j,none⟩=some (.int .u8 (gi X j)):=cell_of RX5.out (by rw [HXL.out];exact hj1)
  have c1:W5.frozen? ⟨e9,j,none⟩=false:=by have:=(T9.out j hj1).2;rwa [Nat.zero_add] at this
  go_upto_region 13 with fail
  obtain ⟨z,hz⟩ : ∃ z,bits BinOp.xor IntKind.u8 (gi X j) (2 ^ r % 256)=z:=⟨_,rfl⟩
  have zb:0≤z∧z≤255:=by rw [←hz];exact Ve.zq _ _ _
  rw [hz]
  have pk:Pk e9 e11 v12 W0 W5 (W5.setCell ⟨e9,j,none⟩ (.int .u8 z)) :=
   ⟨Y,X.set j z,p,HYL.out,by rw [List.length_set];exact HXL.out,zm HXB.out j zb,HP.out,HLP.out,fQ RY5.out NE.out j _,ji RX5.out (by rw [HXL.out];exact T9.out) (by rw [HXL.out];exact hj1) z,(O5.out.keep (fun b hb=>Below.heap_setCell _ _ _ b (fun e=>by have:=O5.out.blk b hb;have:=LX4.out;simp only at e;omega))).sl,B05.out.setCell (by exact G9.out) _,Nat.le_of_eq (World.size_setCell _ _ _).symm⟩
  generalize W5.setCell ⟨e9,j,none⟩ (.int .u8 z)=W9 at pk ⊢
  clear hz c0 c1 hr hj hr1 zb hj1 hm
 case' inr.inl =>
  obtain ⟨j,hj⟩ : ∃ j:Nat,(m:Int)/20=(j:Int):=⟨m/20,by omega⟩
  obtain ⟨r,hr⟩ : ∃ r:Nat,(m:Int) % 8=(r:Int):=⟨m % 8,by omega⟩
  have hj1:j<32:=by omega
  have hr1:r<8:=by omega
  have c0:W5.cell? ⟨e11,j,none⟩=some (.int .u8 (gi Y j)):=cell_of RY5.out (by rw [HYL.out.len];exact hj1)
  have c1:W5.frozen? ⟨e11,j,none⟩=false:=by have:=(T11.out j hj1).2;rwa [Nat.zero_add] at this
  go_upto_region 13 with fail
  obtain ⟨z,hz⟩ : ∃ z,bits BinOp.xor IntKind.u8 (gi Y j) (2 ^ r % 256)=z:=⟨_,rfl⟩
  have zb:0≤z∧z≤255:=by rw [←hz];exact Ve.zq _ _ _
  rw [hz]
  have pk:Pk e9 e11 v12 W0 W5 (W5.setCell ⟨e11,j,none⟩ (.int .u8 z)) :=
   ⟨Y.set j z,X,p,⟨by rw [List.length_set];exact HYL.out.len,zm HYL.out.byt j zb⟩,HXL.out,HXB.out,HP.out,HLP.out,ji RY5.out (by rw [HYL.out.len];exact T11.out) (by rw [HYL.out.len];exact hj1) z,fQ RX5.out (Ne.symm NE.out) j _,(O5.out.keep (fun b hb=>Below.heap_setCell _ _ _ b (fun e=>by have:=O5.out.blk b hb;have:=LY4.out;simp only at e;omega))).sl,B05.out.setCell (by exact G11.out) _,Nat.le_of_eq (World.size_setCell _ _ _).symm⟩
  generalize W5.setCell ⟨e11,j,none⟩ (.int .u8 z)=W9 at pk ⊢
  clear hz c0 c1 hr hj hr1 zb hj1 hm
 case' inr.inr =>
  go_upto_region 13 with (at_builtin;refine rT (B0:=W4.heap.size) rfl (.tmp 38) (.tmp 41) rfl (by have:=B5.out.size;simp only [World.size_alloc];omega) _ p rfl (O5.out.below ((Below.refl _ W5).alloc (Nat.le_refl _) _)) _ rfl [_] (Sl.one W5 _ _) (by have:=HPL.out;simp;omega) ?_;intro v13 W9 g1 g2 g3 g4;have O9:Hid (Ow W4.heap.size W9 v13 _):=g1;have B9:Hid (Below W4.heap.size W5 W9):=((Below.refl _ W5).alloc B5.out.size _).trans g3;clear g1 g2 g3 g4)
  have pk:Pk e9 e11 v13 W0 W5 W9 :=
   ⟨Y,X,p ++ [_],HYL.out,HXL.out,HXB.out,HP.out.append (fun y hy=>by rw [YJ.1 hy];first | exact MT _ | omega),by have:=HPL.out;rw [List.length_append];show p.length+1≤_;omega,aa RY4.out (B5.out.trans B9.out) LY4.out,aa RX24.out (B5.out.trans B9.out) LX4.out,O9.out.sl,Below.tr' BA.out (Below.tr' BB.out (B5.out.trans B9.out)),B9.out.size⟩
  obtain ⟨v12,hv⟩ : ∃ v,v13=v:=⟨_,rfl⟩
  rw [hv] at pk ⊢
  clear hv O9 B9 hm
 all_goals
  have HPK:Hid (Pk e9 e11 v12 W0 W5 W9):=pk
  obtain ⟨A',x',p',h1,h2,h3,h4,h5,h6,h7,h8,h9,h10⟩:=HPK.out
  have HA9:Hid (L32 A'):=h1
  have HX9:Hid (x'.length=80):=h2
  have RA9:Hid (W9.rangeAt e11 0 (bv A')):=h6
  have RX9:Hid (W9.rangeAt e9 0 (bv x')):=h7
  have HS9:Hid (Sl W9 v12 p'):=h8
  have HB9:Hid (Below W0.heap.size W0 W9):=h9
  have LA9:Hid (e11<W9.heap.size):=YI L11.out h10
  have LX9:Hid (e9<W9.heap.size):=YI L9.out h10
  have G9w:Hid (Glo Ve.MA W9):=aE G0.out h9
  obtain ⟨Q,hQ⟩ : ∃ z,vyV A' p' x'=z:=⟨_,rfl⟩
  obtain ⟨F,hF⟩ : ∃ z,vyE A' p' x'=z:=⟨_,rfl⟩
  have HQL:Hid (Q.length=64):=by rw [←hQ];exact Fg _ _ _
  have HV3:Hid (∀ W,Sl W v12 p'→Glo Ve.MA W→Calls Tryz.prog 13 #[.agg (bv A').toArray,v12,.agg (bv x').toArray] W fun e w'=>e = .returned (.tuple #[.agg (bv Q).toArray,.int .i64 F])∧Below W.heap.size W w'):=fun W k1 k2=>by rw [←hQ,←hF];exact yj A' p' x' h1 h4 h5 h2 h3 v12 W k1 k2
  have HV7:Hid (∀ W,Sl W v12 p'→Glo Ve.MA W→Calls Tryz.prog 14 #[.agg (bv A').toArray,v12,.agg (bv x').toArray] W fun e w'=>e = .returned (.tuple #[.agg (bv Q).toArray,.int .i64 F])∧Below W.heap.size W w'):=fun W k1 k2=>by rw [←hQ,←hF];exact uH A' p' x' h1 h4 h5 h2 h3 v12 W k1 k2
  have HEQ:Hid (∀ W:World,(binOp .eql 29 (.agg (bv Q).toArray) (.agg (bv Q).toArray)).run Tryz.prog W = .ok (.bool true) W):=fun W=>by rw [Pb Tryz.underlying29 HQL.out HQL.out W,decide_eq_true rfl]
  clear h1 h2 h3 h4 h5 h6 h7 h8 h9 h10 hQ hF pk
  go_upto_region 14 with (first
   | (refine wpList_load_mid rfl 22 (.tmp 11) rfl (e11) 0 rfl (bv A') _ RA9.out Tryz.underlying22 rfl (by rw [ae,HA9.out.len];exact aF) ?_)
   | (refine wpList_load_mid rfl 25 (.tmp 9) rfl (e9) 0 rfl (bv x') _ RX9.out Tryz.underlying25 rfl (by rw [ae,HX9.out];exact ct) ?_)
   | (go_at_call 13;refine (HV3.out W9 HS9.out G9w.out).mono ?_;rintro e Wa ⟨rfl,g1⟩;have BWa:Hid (Below W9.heap.size W9 Wa):=g1;clear g1)
   | (refine wpList_store_mid rfl 29 (.tmp 13) (.tmp 76) rfl Wa.heap.size 0 (bv Q).toArray rfl rfl (bK Wa (HQL.out) HZ6.out) (aC (HQL.out) aR) (ar _) ?_;simp only [YN]))
  obtain ⟨e13,he13⟩ : ∃ n,Wa.heap.size=n:=⟨_,rfl⟩
  obtain ⟨Wb,hWb⟩ : ∃ W,(Wa.alloc (.cells Z6 29)).setCells Wa.heap.size 0 (bv Q)=W:=⟨_,rfl⟩
  obtain ⟨l1,l2,l3⟩:=aS (by rw [ae,HQL.out,HZ6.out]) (by rw [ae,HQL.out];omega) hWb
  have BWb:Hid (Below Wa.heap.size Wa Wb):=l2
  have RQb:Hid (Wb.rangeAt e13 0 (bv Q)):=by rw [←he13];exact l1
  have LQb:Hid (e13<Wb.heap.size):=by rw [←he13];exact l3
  try rw [hWb]
  try rw [he13]
  clear l1 l2 l3 hWb he13
  have B9b:Hid (Below W9.heap.size W9 Wb):=Below.tr' BWa.out BWb.out
  have Gb:Hid (Glo Ve.MA Wb):=aE G9w.out B9b.out
  have HSb:Hid (Sl Wb v12 p'):=HS9.out.below B9b.out (Nat.le_refl _)
  have RAb:Hid (Wb.rangeAt e11 0 (bv A')):=aa RA9.out B9b.out LA9.out
  have RXb:Hid (Wb.rangeAt e9 0 (bv x')):=aa RX9.out B9b.out LX9.out
  go_upto_region 15 with (first
   | (refine wpList_load_mid rfl 22 (.tmp 11) rfl (e11) 0 rfl (bv A') _ RAb.out Tryz.underlying22 rfl (by rw [ae,HA9.out.len];exact aF) ?_)
   | (refine wpList_load_mid rfl 25 (.tmp 9) rfl (e9) 0 rfl (bv x') _ RXb.out Tryz.underlying25 rfl (by rw [ae,HX9.out];exact ct) ?_)
   | (go_at_call 14;refine (HV7.out Wb HSb.out Gb.out).mono ?_;rintro e Wc ⟨rfl,g1⟩;have BWc:Hid (Below Wb.heap.size Wb Wc):=g1;clear g1)
   | (refine wpList_store_mid rfl 29 (.tmp 15) (.tmp 83) rfl Wc.heap.size 0 (bv Q).toArray rfl rfl (bK Wc (HQL.out) HZ6.out) (aC (HQL.out) aR) (ar _) ?_;simp only [YN]))
  obtain ⟨e15,he15⟩ : ∃ n,Wc.heap.size=n:=⟨_,rfl⟩
  obtain ⟨Wd,hWd⟩ : ∃ W,(Wc.alloc (.cells Z6 29)).setCells Wc.heap.size 0 (bv Q)=W:=⟨_,rfl⟩
  obtain ⟨l1,l2,l3⟩:=aS (by rw [ae,HQL.out,HZ6.out]) (by rw [ae,HQL.out];omega) hWd
  have BWd:Hid (Below Wc.heap.size Wc Wd):=l2
  have RQd:Hid (Wd.rangeAt e15 0 (bv Q)):=by rw [←he15];exact l1
  have LQd:Hid (e15<Wd.heap.size):=by rw [←he15];exact l3
  try rw [hWd]
  try rw [he15]
  clear l1 l2 l3 hWd he15
  have Bbd:Hid (Below Wb.heap.size Wb Wd):=Below.tr' BWc.out BWd.out
  have RQ2:Hid (Wd.rangeAt e13 0 (bv Q)):=aa RQb.out Bbd.out LQb.out
  have BF:Hid (Below w.heap.size w Wd):=Below.tr' BU.out (Below.tr' BW0.out ((HB9.out).trans ((Below.tr' B9b.out Bbd.out).mono HB9.out.size)))
  go_wp2_with (first
   | (refine lP rfl 29 (.tmp 13) rfl (e13) 0 rfl (bv Q) _ RQ2.out Tryz.underlying29 rfl (by rw [ae,HQL.out];exact aR) ?_)
   | (refine lP rfl 29 (.tmp 15) rfl (e15) 0 rfl (bv Q) _ RQd.out Tryz.underlying29 rfl (by rw [ae,HQL.out];exact aR) ?_)
   | (refine KE .eql 29 29 (.tmp 85) (.tmp 86) rfl rfl _ _ (.bool true) rfl rfl (K9 _ _ _ _ _ Wd) (HEQ.out Wd) ?_))
  go_ret
  exact ⟨rfl,BF.out⟩
end Go.Proofs.YtajehiidpecknaaGreatDoor.Wi
