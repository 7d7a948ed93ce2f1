import Derived.Test.YtajehiidpecknaaGreatDoorVrL
import Derived.Test.YtajehiidpecknaaGreatDoorVrR
import Derived.Test.YtajehiidpecknaaGreatDoorVrS
set_option linter.all false
namespace Go.Proofs.YtajehiidpecknaaGreatDoor.Wi
open Go Go.RowKit
set_option maxRecDepth 100000
set_option maxHeartbeats 8000000 in
theorem sL (ky p x:List Int) (ha:L32 ky) (hp:Byt p) (hl:p.length≤140737488353000) (hx:x.length=80) (hxb:Byt x) (v:Value) (w:World) (hv:Sl w v p) (hg:Glo Ve.MA w) :
  Calls Tryz.prog 4 #[.agg (bv ky).toArray,v,.agg (bv x).toArray] w fun e w'=>e = .returned (.bool true)∧Below w.heap.size w w':=by
 have HA:Hid (L32 ky):=ha
 have HXL:Hid (x.length=80):=hx
 have HVW:Hid (Sl w v p):=hv
 obtain ⟨a0,c0,hv0,-,-⟩:=id HVW.out
 obtain ⟨n0,hn0⟩ : ∃ n,p.length=n:=⟨_,rfl⟩
 rw [hn0] at hv0
 subst hv0
 obtain ⟨V,hV⟩ : ∃ z,vyV ky p x=z:=⟨_,rfl⟩
 obtain ⟨E,hE⟩ : ∃ z,vyE ky p x=z:=⟨_,rfl⟩
 obtain ⟨O,hO⟩ : ∃ z,otV x=z:=⟨_,rfl⟩
 obtain ⟨G,hG⟩ : ∃ z,otE x=z:=⟨_,rfl⟩
 have HVL:Hid (V.length=64):=by rw [←hV];exact GB _ _ _
 have HOL:Hid (O.length=64):=by rw [←hO];exact mr _
 have HAW:Hid (∀ W,Glo Ve.MA W→Calls Tryz.prog 8 #[] W fun e w'=>e = .returned (.bool true)∧Below W.heap.size W w'):=zM
 have HVF:Hid (∀ W,Sl W (.slice a0 n0 c0) p→Glo Ve.MA W→Calls Tryz.prog 13 #[.agg (bv ky).toArray,.slice a0 n0 c0,.agg (bv x).toArray] W fun e w'=>e = .returned (.tuple #[.agg (bv V).toArray,.int .i64 E])∧Below W.heap.size W w'):=fun W h1 h2=>by rw [←hV,←hE];exact vf ky p x ha hp hl hx hxb _ W h1 h2
 have HRV:Hid (∀ W,Sl W (.slice a0 n0 c0) p→Glo Ve.MA W→Calls Tryz.prog 14 #[.agg (bv ky).toArray,.slice a0 n0 c0,.agg (bv x).toArray] W fun e w'=>e = .returned (.tuple #[.agg (bv V).toArray,.int .i64 E])∧Below W.heap.size W w'):=fun W h1 h2=>by rw [←hV,←hE];exact ue ky p x ha hp hl hx hxb _ W h1 h2
 have HOT:Hid (∀ W,Glo Ve.MA W→Calls Tryz.prog 11 #[.agg (bv x).toArray] W fun e w'=>e = .returned (.tuple #[.agg (bv O).toArray,.int .i64 G])∧Below W.heap.size W w'):=fun W h2=>by rw [←hO,←hG];exact oh x hx hxb W h2
 have HRO:Hid (∀ W,Glo Ve.MA W→Calls Tryz.prog 12 #[.agg (bv x).toArray] W fun e w'=>e = .returned (.tuple #[.agg (bv O).toArray,.int .i64 G])∧Below W.heap.size W w'):=fun W h2=>by rw [←hO,←hG];exact lO x hx hxb W h2
 have HEV:Hid (∀ W:World,(binOp .eql 29 (.agg (bv V).toArray) (.agg (bv V).toArray)).run Tryz.prog W = .ok (.bool true) W):=fun W=>by rw [Mx Tryz.underlying29 HVL.out HVL.out W,decide_eq_true rfl]
 have HEO:Hid (∀ W:World,(binOp .eql 29 (.agg (bv O).toArray) (.agg (bv O).toArray)).run Tryz.prog W = .ok (.bool true) W):=fun W=>by rw [Mx Tryz.underlying29 HOL.out HOL.out W,decide_eq_true rfl]
 have hz6:=eI
 obtain ⟨Z6,hZ6⟩ : ∃ Z,(bv (List.replicate 64 0)).toArray=Z:=⟨_,rfl⟩
 have hZs6:Z6.size=64:=by rw [←hZ6];simp [bv]
 have HZ6:Hid (Z6.size=64):=hZs6
 rw [hZ6] at hz6
 clear hZ6 hZs6
 obtain ⟨A0,hA0⟩ : ∃ A,(bv ky).toArray=A:=⟨_,rfl⟩
 rw [hA0]
 obtain ⟨A1,hA1⟩ : ∃ A,(bv x).toArray=A:=⟨_,rfl⟩
 rw [hA1]
 obtain ⟨U,hU⟩ : ∃ U,((w.alloc (.cells A0 22)).alloc (.cells A1 25))=U:=⟨_,rfl⟩
 have sU:U.heap.size=w.heap.size+2:=by rw [←hU];simp
 have bU:Below w.heap.size w U:=by rw [←hU];exact (((Below.refl _ w).alloc (by first | exact Nat.le_refl _ | (simp only [World.size_alloc];omega)) _).alloc (by first | exact Nat.le_refl _ | (simp only [World.size_alloc];omega)) _)
 have r0:U.rangeAt (w.heap.size) 0 (bv ky):=fun j v hj=>by rw [Nat.zero_add,cell_of_row U _ j _ _ _ (show U.heap[w.heap.size]? = some (.cells A0 22 (0,0)) by rw [←hU];exact aV [.cells A0 22 (0,0),.cells A1 25 (0,0)] w.heap 0 _ rfl),←hA0,List.getElem?_toArray];exact hj
 have r1:U.rangeAt (w.heap.size+1) 0 (bv x):=fun j v hj=>by rw [Nat.zero_add,cell_of_row U _ j _ _ _ (show U.heap[w.heap.size+1]? = some (.cells A1 25 (0,0)) by rw [←hU];exact aV [.cells A0 22 (0,0),.cells A1 25 (0,0)] w.heap 1 _ rfl),←hA1,List.getElem?_toArray];exact hj
 have BU:Hid (Below w.heap.size w U):=bU
 obtain ⟨D,hD⟩ : ∃ D,w.heap.size=D:=⟨_,rfl⟩
 have HD:Hid (w.heap.size=D):=hD
 rw [hD] at sU r0 r1
 have RA:Hid (U.rangeAt (D) 0 (bv ky)):=r0
 have LA:Hid (D<U.heap.size):=by show _<_;omega
 have RP:Hid (U.rangeAt (D+1) 0 (bv x)):=r1
 have LP:Hid (D+1<U.heap.size):=by show _<_;omega
 clear sU bU r0 r1 hA0 hA1
 have HGU:Hid (Glo Ve.MA U):=hg.below BU.out
 clear hg ha hp hl hx hxb hv hV hE hO hG hn0
 go_enter Tryz.func4,Tryz.ntmps4
 go_upto_region 1 with (fail)
 try rw [hU]
 try rw [hD]
 clear hU hD
 go_upto_region 3 with (first
  | (go_at_call 8;refine (HAW.out U HGU.out).mono ?_;rintro e W0 ⟨rfl,g1⟩;have BW0:Hid (Below U.heap.size U W0):=g1;clear g1))
 have G0:Hid (Glo Ve.MA W0):=aA HGU.out BW0.out
 have RA0:Hid (W0.rangeAt (D) 0 (bv ky)):=aa RA.out BW0.out LA.out
 have LA0:Hid (D<W0.heap.size):=YI LA.out BW0.out.size
 have RP0:Hid (W0.rangeAt (D+1) 0 (bv x)):=aa RP.out BW0.out LP.out
 have LP0:Hid (D+1<W0.heap.size):=YI LP.out BW0.out.size
 clear RA LA RP LP
 have V0:Hid (Sl W0 (.slice a0 n0 c0) p):=HVW.out.below (Below.tr' BU.out BW0.out) (Nat.le_refl _)
 go_upto_region 4 with (first
  | (refine wpList_load_mid rfl 22 (.tmp 3) rfl (D) 0 rfl (bv ky) _ RA0.out Tryz.underlying22 rfl (by rw [ae,HA.out.len];exact aL) ?_)
  | (refine wpList_load_mid rfl 25 (.tmp 5) rfl (D+1) 0 rfl (bv x) _ RP0.out Tryz.underlying25 rfl (by rw [ae,HXL.out];exact cW) ?_)
  | (go_at_call 13;refine (HVF.out W0 V0.out G0.out).mono ?_;rintro e W1 ⟨rfl,g1⟩;have BW1:Hid (Below W0.heap.size W0 W1):=g1;clear g1)
  | (refine wpList_store_mid rfl 29 (.tmp 7) (.tmp 22) rfl W1.heap.size 0 (bv V).toArray rfl rfl (cr W1 (HVL.out) HZ6.out) (aF (HVL.out) aP) (az _) ?_;simp only [YN]))
 obtain ⟨e1,he1⟩ : ∃ n,W1.heap.size=n:=⟨_,rfl⟩
 obtain ⟨W2,hW2⟩ : ∃ W,(W1.alloc (.cells Z6 29)).setCells W1.heap.size 0 (bv V)=W:=⟨_,rfl⟩
 obtain ⟨l1,l2,l3⟩:=aZ (by rw [ae,HVL.out,HZ6.out]) (by rw [ae,HVL.out];omega) hW2
 have BW2:Hid (Below W1.heap.size W1 W2):=l2
 have R1:Hid (W2.rangeAt e1 0 (bv V)):=by rw [←he1];exact l1
 have L1:Hid (e1<W2.heap.size):=by rw [←he1];exact l3
 try rw [hW2]
 try rw [he1]
 clear l1 l2 l3 hW2 he1
 have BA:Hid (Below W0.heap.size W0 W2):=Below.tr' BW1.out BW2.out
 have RA2:Hid (W2.rangeAt (D) 0 (bv ky)):=aa RA0.out BA.out LA0.out
 have LA2:Hid (D<W2.heap.size):=YI LA0.out BA.out.size
 have RP2:Hid (W2.rangeAt (D+1) 0 (bv x)):=aa RP0.out BA.out LP0.out
 have LP2:Hid (D+1<W2.heap.size):=YI LP0.out BA.out.size
 clear RA0 LA0 RP0 LP0
 have G2:Hid (Glo Ve.MA W2):=aA G0.out BA.out
 have B2:Hid (Below U.heap.size U W2):=Below.tr' BW0.out BA.out
 have V2:Hid (Sl W2 (.slice a0 n0 c0) p):=HVW.out.below (Below.tr' BU.out B2.out) (Nat.le_refl _)
 clear BW0 BW1 BW2 BA G0 V0
 go_upto_region 5 with (first
  | (refine wpList_load_mid rfl 22 (.tmp 3) rfl (D) 0 rfl (bv ky) _ RA2.out Tryz.underlying22 rfl (by rw [ae,HA.out.len];exact aL) ?_)
  | (refine wpList_load_mid rfl 25 (.tmp 5) rfl (D+1) 0 rfl (bv x) _ RP2.out Tryz.underlying25 rfl (by rw [ae,HXL.out];exact cW) ?_)
  | (go_at_call 14;refine (HRV.out W2 V2.out G2.out).mono ?_;rintro e W3 ⟨rfl,g1⟩;have BW3:Hid (Below W2.heap.size W2 W3):=g1;clear g1)
  | (refine wpList_store_mid rfl 29 (.tmp 9) (.tmp 29) rfl W3.heap.size 0 (bv V).toArray rfl rfl (cr W3 (HVL.out) HZ6.out) (aF (HVL.out) aP) (az _) ?_;simp only [YN]))
 obtain ⟨e2,he2⟩ : ∃ n,W3.heap.size=n:=⟨_,rfl⟩
 obtain ⟨W4,hW4⟩ : ∃ W,(W3.alloc (.cells Z6 29)).setCells W3.heap.size 0 (bv V)=W:=⟨_,rfl⟩
 obtain ⟨l1,l2,l3⟩:=aZ (by rw [ae,HVL.out,HZ6.out]) (by rw [ae,HVL.out];omega) hW4
 have BW4:Hid (Below W3.heap.size W3 W4):=l2
 have R2v:Hid (W4.rangeAt e2 0 (bv V)):=by rw [←he2];exact l1
 have L2v:Hid (e2<W4.heap.size):=by rw [←he2];exact l3
 try rw [hW4]
 try rw [he2]
 clear l1 l2 l3 hW4 he2
 have BA:Hid (Below W2.heap.size W2 W4):=Below.tr' BW3.out BW4.out
 have RP4:Hid (W4.rangeAt (D+1) 0 (bv x)):=aa RP2.out BA.out LP2.out
 have LP4:Hid (D+1<W4.heap.size):=YI LP2.out BA.out.size
 clear RP2 LP2
 have R1b:Hid (W4.rangeAt (e1) 0 (bv V)):=aa R1.out BA.out L1.out
 have L1b:Hid (e1<W4.heap.size):=YI L1.out BA.out.size
 clear R1 L1
 have G4:Hid (Glo Ve.MA W4):=aA G2.out BA.out
 have B4:Hid (Below U.heap.size U W4):=Below.tr' B2.out BA.out
 clear BW3 BW4 BA G2 V2 B2 RA2 LA2
 go_upto_region 6 with (first
  | (refine wpList_load_mid rfl 25 (.tmp 5) rfl (D+1) 0 rfl (bv x) _ RP4.out Tryz.underlying25 rfl (by rw [ae,HXL.out];exact cW) ?_)
  | (go_at_call 11;refine (HOT.out W4 G4.out).mono ?_;rintro e W5 ⟨rfl,g1⟩;have BW5:Hid (Below W4.heap.size W4 W5):=g1;clear g1)
  | (refine wpList_store_mid rfl 29 (.tmp 11) (.tmp 34) rfl W5.heap.size 0 (bv O).toArray rfl rfl (cr W5 (HOL.out) HZ6.out) (aF (HOL.out) aP) (az _) ?_;simp only [YN]))
 obtain ⟨e3,he3⟩ : ∃ n,W5.heap.size=n:=⟨_,rfl⟩
 obtain ⟨W6,hW6⟩ : ∃ W,(W5.alloc (.cells Z6 29)).setCells W5.heap.size 0 (bv O)=W:=⟨_,rfl⟩
 obtain ⟨l1,l2,l3⟩:=aZ (by rw [ae,HOL.out,HZ6.out]) (by rw [ae,HOL.out];omega) hW6
 have BW6:Hid (Below W5.heap.size W5 W6):=l2
 have R3:Hid (W6.rangeAt e3 0 (bv O)):=by rw [←he3];exact l1
 have L3:Hid (e3<W6.heap.size):=by rw [←he3];exact l3
 try rw [hW6]
 try rw [he3]
 clear l1 l2 l3 hW6 he3
 have BA:Hid (Below W4.heap.size W4 W6):=Below.tr' BW5.out BW6.out
 have RP6:Hid (W6.rangeAt (D+1) 0 (bv x)):=aa RP4.out BA.out LP4.out
 have LP6:Hid (D+1<W6.heap.size):=YI LP4.out BA.out.size
 clear RP4 LP4
 have R1bc:Hid (W6.rangeAt (e1) 0 (bv V)):=aa R1b.out BA.out L1b.out
 have L1bc:Hid (e1<W6.heap.size):=YI L1b.out BA.out.size
 have R2vc:Hid (W6.rangeAt (e2) 0 (bv V)):=aa R2v.out BA.out L2v.out
 have L2vc:Hid (e2<W6.heap.size):=YI L2v.out BA.out.size
 clear R1b L1b R2v L2v
 have G6:Hid (Glo Ve.MA W6):=aA G4.out BA.out
 have B6:Hid (Below U.heap.size U W6):=Below.tr' B4.out BA.out
 clear BW5 BW6 BA G4 B4
 go_upto_region 7 with (first
  | (refine wpList_load_mid rfl 25 (.tmp 5) rfl (D+1) 0 rfl (bv x) _ RP6.out Tryz.underlying25 rfl (by rw [ae,HXL.out];exact cW) ?_)
  | (go_at_call 12;refine (HRO.out W6 G6.out).mono ?_;rintro e W7 ⟨rfl,g1⟩;have BW7:Hid (Below W6.heap.size W6 W7):=g1;clear g1)
  | (refine wpList_store_mid rfl 29 (.tmp 13) (.tmp 39) rfl W7.heap.size 0 (bv O).toArray rfl rfl (cr W7 (HOL.out) HZ6.out) (aF (HOL.out) aP) (az _) ?_;simp only [YN]))
 obtain ⟨e4,he4⟩ : ∃ n,W7.heap.size=n:=⟨_,rfl⟩
 obtain ⟨W8,hW8⟩ : ∃ W,(W7.alloc (.cells Z6 29)).setCells W7.heap.size 0 (bv O)=W:=⟨_,rfl⟩
 obtain ⟨l1,l2,l3⟩:=aZ (by rw [ae,HOL.out,HZ6.out]) (by rw [ae,HOL.out];omega) hW8
 have BW8:Hid (Below W7.heap.size W7 W8):=l2
 have R4:Hid (W8.rangeAt e4 0 (bv O)):=by rw [←he4];exact l1
 have L4:Hid (e4<W8.heap.size):=by rw [←he4];exact l3
 try rw [hW8]
 try rw [he4]
 clear l1 l2 l3 hW8 he4
 have BA:Hid (Below W6.heap.size W6 W8):=Below.tr' BW7.out BW8.out
 have R1bcd:Hid (W8.rangeAt (e1) 0 (bv V)):=aa R1bc.out BA.out L1bc.out
 have L1bcd:Hid (e1<W8.heap.size):=YI L1bc.out BA.out.size
 have R2vcd:Hid (W8.rangeAt (e2) 0 (bv V)):=aa R2vc.out BA.out L2vc.out
 have L2vcd:Hid (e2<W8.heap.size):=YI L2vc.out BA.out.size
 have R3d:Hid (W8.rangeAt (e3) 0 (bv O)):=aa R3.out BA.out L3.out
 have L3d:Hid (e3<W8.heap.size):=YI L3.out BA.out.size
 clear R1bc L1bc R2vc L2vc R3 L3
 have B8:Hid (Below w.heap.size w W8):=Below.tr' BU.out (Below.tr' B6.out BA.out)
 clear BW7 BW8 BA G6 B6 RP6 LP6
 go_wp2_with (first
  | (refine iG rfl 29 (.tmp 7) rfl (e1) 0 rfl (bv V) _ R1bcd.out Tryz.underlying29 rfl (by rw [ae,HVL.out];exact aP) ?_)
  | (refine iG rfl 29 (.tmp 9) rfl (e2) 0 rfl (bv V) _ R2vcd.out Tryz.underlying29 rfl (by rw [ae,HVL.out];exact aP) ?_)
  | (refine iG rfl 29 (.tmp 11) rfl (e3) 0 rfl (bv O) _ R3d.out Tryz.underlying29 rfl (by rw [ae,HOL.out];exact aP) ?_)
  | (refine iG rfl 29 (.tmp 13) rfl (e4) 0 rfl (bv O) _ R4.out Tryz.underlying29 rfl (by rw [ae,HOL.out];exact aP) ?_)
  | (refine BE .eql 29 29 (.tmp 41) (.tmp 42) rfl rfl _ _ (.bool true) rfl rfl (CE _ _ _ _ _ W8) (HEV.out W8) ?_)
  | (refine BE .eql 29 29 (.tmp 50) (.tmp 51) rfl rfl _ _ (.bool true) rfl rfl (CE _ _ _ _ _ W8) (HEO.out W8) ?_))
 go_ret
 exact ⟨rfl,B8.out⟩
end Go.Proofs.YtajehiidpecknaaGreatDoor.Wi
