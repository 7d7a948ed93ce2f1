import Derived.Test.YtajehiidpecknaaGreatDoorVrH
set_option linter.all false
namespace Go.Proofs.YtajehiidpecknaaGreatDoor.Wi
open Go Go.RowKit
set_option maxRecDepth 100000
theorem eP (w:World):(zeroValue 25).run Tryz.prog w = .ok (.agg (bv (List.replicate 80 0)).toArray) w:=by kernel_rfl
theorem tU (w:World):(Instr.build 25 #[]).run Tryz.prog w = .ok (.agg (bv (List.replicate 80 0)).toArray) w:=run_build w _ _ _ (by kernel_rfl)
theorem Nw (W:World) {Z1 Z2:Array Value} {t1 t2:TypeId} {x1 x2:List Int} {n1 n2:Nat} (z1:Z1.size=n1) (z2:Z2.size=n2) (l1:x1.length=n1) (l2:x2.length=n2) {U:World} (hU:(W.alloc (.cells Z1 t1)).alloc (.cells Z2 t2)=U) :
  U.there W.heap.size 0 n1∧(U.setCells W.heap.size 0 (bv x1)).there (W.heap.size+1) 0 n2 ∧
  ∀ X,(U.setCells W.heap.size 0 (bv x1)).setCells (W.heap.size+1) 0 (bv x2)=X→X.rangeAt W.heap.size 0 (bv x1)∧X.rangeAt (W.heap.size+1) 0 (bv x2)∧Below W.heap.size W X∧X.heap.size=W.heap.size+2:=by
 have s:U.heap.size=W.heap.size+2:=by rw [←hU];simp
 have b:Below W.heap.size W U:=by rw [←hU];exact ((Below.refl _ W).alloc (Nat.le_refl _) _).alloc (by simp) _
 have r : ∀ i o,[Obj.cells Z1 t1 (0,0),.cells Z2 t2 (0,0)][i]? = some o→U.heap[W.heap.size+i]? = some o:=fun i o h=>by rw [←hU];exact aV _ W.heap i o h
 have a1:U.there W.heap.size 0 n1:=aO (r 0 _ rfl) 0 n1 (by omega)
 have a2:=World.there_setCells (aO (r 1 _ rfl) 0 n2 (by omega)) W.heap.size 0 (bv x1)
 refine ⟨a1,a2,fun X hX => ?_⟩
 subst hX
 have q1:(U.setCells W.heap.size 0 (bv x1)).rangeAt W.heap.size 0 (bv x1):=World.rangeAt_setCells_same _ _ _ _ (by rw [ae,l1];exact a1)
 refine ⟨World.rangeAt_setCells_apart q1 _ _ _ (.inl (by omega)),World.rangeAt_setCells_same _ _ _ _ (by rw [ae,l2];exact a2),af (by omega) _ _ (af (Nat.le_refl _) _ _ b),?_⟩
 rw [bR,bR,s]
def pvK (s I:List Int):List Int:=rd (h5 (joA [Ve.pf s,I]))
def pvC (s I:List Int):List Int:=chl (Bs (Ve.sk s)) I (Ml (Ve.sk s) I) (Bs (pvK s I)) (Ml (pvK s I) I)
def pvO (s I:List Int):List Int:=joA [Ml (Ve.sk s) I,pvC s I,md (wd (pvC s I)) (Ve.sk s) (pvK s I)]
def pvI (s p:List Int):Option (List Int):=inq (Bs (Ve.sk s)) p
def pvW (s:List Int):Option (List Int)→List Int
 | some I=>pvO s I
 | none=>List.replicate 80 0
def pvV (s p:List Int):List Int:=pvW s (pvI s p)
theorem kr (a b c d e:List Int):(chl a b c d e).length=16:=by rw [chl,List.length_take,bq];rfl
theorem mQ (a b c d e:List Int):Byt (chl a b c d e):=fun z hz=>dS _ z (List.mem_of_mem_take hz)
theorem FX (a b c:List Int):(joA [a,b,c]).length=a.length+b.length+c.length:=by
 show ((([] ++ a) ++ b) ++ c).length=_
 simp only [List.length_append,List.length_nil,Nat.zero_add]
theorem FZ {a b c:List Int} (ha:Byt a) (hb:Byt b) (hc:Byt c):Byt (joA [a,b,c]):=((Byt.nil.append ha).append hb).append hc
theorem sP (s I:List Int):(pvO s I).length=80:=by
 rw [pvO,FX,(L32.ml _ _).len,(L32.md _ _ _).len,pvC,kr]
theorem Fm (s I:List Int):Byt (pvO s I):=FZ (L32.ml _ _).byt (mQ _ _ _ _ _) (L32.md _ _ _).byt
theorem IE (s:List Int) : ∀ o,(pvW s o).length=80
 | some I=>sP s I
 | none=>List.length_replicate
theorem FT (s:List Int) : ∀ o,Byt (pvW s o)
 | some I=>Fm s I
 | none=>fun z hz=>by have:=(List.mem_replicate.1 hz).2;omega
theorem FI (s p:List Int):(pvV s p).length=80:=IE s _
theorem Fk (s p:List Int):Byt (pvV s p):=FT s _
def phP (x:List (List Int)) (J:List Int):Nat→Value→World→Prop
 | 2,v,W=>LL W v x
 | 3,v,W=>Sq W v J
 | _,_,_=>True
theorem fi (x:List (List Int)) (J:List Int) : ∀ i v W W',phP x J i v W→Below W.heap.size W W'→phP x J i v W':=by
 intro i v W W' h hb
 match i,h with
 | 0,_=>trivial
 | 1,_=>trivial
 | 2,h=>exact LL.below (xss:=x) h hb
 | 3,h=>exact Sq.below (xs:=J) h hb
 | n+4,_=>trivial
def Ot (W:World) (v:Value) (o:List Int):Prop := ∃ g cap,v = .slice (some ⟨g,0,none⟩) 80 cap∧80≤cap∧g<W.heap.size∧W.rangeAt g 0 (bv o)
def OT (W:World) (v:Value) (o:List Int):Prop := ∃ g,v = .pointer (some ⟨g,0,none⟩)∧g<W.heap.size∧W.rangeAt g 0 (bv o)
theorem Ow.at80 {B0:Nat} {w:World} {v:Value} {o:List Int} (h:Ow B0 w v o) (ho:o.length=80):Ot w v o:=by
 obtain ⟨ad,cap,hv,hc,h1⟩:=h.sl
 rw [ho] at hv hc
 rcases h.2 with ⟨q1,q2⟩ | ⟨g,c2,cur,q1,q2,q3⟩
 ·rw [q2] at ho;cases ho
 ·rw [hv,ho] at q1;cases q1
  rcases h1 with ⟨e,_⟩ | ⟨b,o',e,hl,hm⟩
  ·rw [e] at ho;cases ho
  ·cases e
   exact ⟨g,cap,hv,hc,hl,fun j u hj=>by
    have hj':j<o.length:=by have:=(List.getElem?_eq_some_iff.1 hj).1;rwa [ae] at this
    rw [de o hj'] at hj;cases hj;exact hm j hj'⟩
def phQ (x:List (List Int)) (o:List Int):Nat→Value→World→Prop
 | 3,v,W=>LL W v x
 | 4,v,W=>Ot W v o
 | 5,v,W=>OT W v o
 | _,_,_=>True
theorem fp (x:List (List Int)) (o:List Int) : ∀ i v W W',phQ x o i v W→Below W.heap.size W W'→phQ x o i v W':=by
 intro i v W W' h hb
 match i,h with
 | 0,_=>trivial
 | 1,_=>trivial
 | 2,_=>trivial
 | 3,h=>exact LL.below (xss:=x) h hb
 | 4,⟨g,cap,e,hc,hl,hr⟩=>exact ⟨g,cap,e,hc,YI hl hb.size,aa hr hb hl⟩
 | 5,⟨g,e,hl,hr⟩=>exact ⟨g,e,YI hl hb.size,aa hr hb hl⟩
 | n+6,_=>trivial
def z16:List Int:=List.replicate 16 0
theorem yO {c X:List Int} (hX:wd c=X) (h:c.length=16) (w:World) (hw:Glo Ve.MA w):Calls Tryz.prog 26 #[.agg (bv c).toArray] w fun e w'=>e = .returned (.agg (bv X).toArray)∧Below w.heap.size w w':=by subst hX;exact Lz h w hw
theorem xq {W:World} {b o:Nat} {x:List Int} (hx:x.length=16) (h:W.rangeAt b o (bv x)) (hb:b<W.heap.size):Sl W (.slice (some ⟨b,o,none⟩) 16 16) x :=
 ⟨_,16,by rw [hx],by rw [hx];exact Nat.le_refl _,.inr ⟨b,o,rfl,hb,fun i hi=>h i _ (de x hi)⟩⟩
def Py (e6 e9:Nat) (H K:List Int):Nat→Option Value
 | 0=>some (.slice (some ⟨e6+1,0,none⟩) 32 32)
 | 1=>some (.slice (some ⟨e9,0,none⟩) 32 32)
 | 4=>some (.agg (bv H).toArray)
 | 5=>some (.agg (bv K).toArray)
 | _=>none
def Pg (e8 e9 e11 b6:Nat) (Y I G K BK KI C:List Int):Nat→Option Value
 | 0=>some (.agg (bv Y).toArray)
 | 1=>some (.agg (bv I).toArray)
 | 2=>some (.agg (bv G).toArray)
 | 3=>some (.agg (bv K).toArray)
 | 4=>some (.agg (bv BK).toArray)
 | 5=>some (.agg (bv K).toArray)
 | 6=>some (.agg (bv I).toArray)
 | 7=>some (.agg (bv KI).toArray)
 | 8=>some (.agg (bv C).toArray)
 | _=>none
def PI (e6 b6 b9:Nat) (S K C X D2:List Int):Nat→Option Value
 | 0=>some (.agg (bv C).toArray)
 | 1=>some (.agg (bv X).toArray)
 | 2=>some (.agg (bv S).toArray)
 | 3=>some (.agg (bv K).toArray)
 | 4=>some (.agg (bv D2).toArray)
 | _=>none
def MU (e11 b9 b5:Nat) (O:List Int):Nat→Option Value
 | 0=>some (.slice (some ⟨e11,0,none⟩) 32 32)
 | 1=>some (.slice (some ⟨b9,0,none⟩) 16 16)
 | 2=>some (.slice (some ⟨b5,0,none⟩) 32 32)
 | 6=>some (.agg (bv O).toArray)
 | 8=>some (.int .i64 0)
 | _=>none
set_option maxHeartbeats 8000000 in
theorem zV (s p:List Int) (hs:L32 s) (hp:Byt p) (hl:p.length≤140737488353000) (v:Value) (w:World) (hv:Sl w v p) (hg:Glo Ve.MA w) :
  Calls Tryz.prog 9 #[.agg (bv s).toArray,v] w fun e w'=>e = .returned (.tuple #[.agg (bv (pvV s p)).toArray,.int .i64 (mA (pvI s p))])∧Below w.heap.size w w':=by
 have HS0:Hid (L32 s):=hs
 obtain ⟨S,hS⟩ : ∃ z,Ve.sk s=z:=⟨_,rfl⟩
 obtain ⟨P,hP⟩ : ∃ z,Ve.pf s=z:=⟨_,rfl⟩
 have HS:Hid (L32 S):=by rw [←hS];exact Ve.oI _
 have HP:Hid (L32 P):=by rw [←hP];exact Ve.tc _
 have HHV:Hid (∀ W,Glo Ve.MA W→Calls Tryz.prog 17 #[.agg (bv s).toArray] W fun e w'=>e = .returned (.tuple #[.agg (bv S).toArray,.agg (bv P).toArray])∧Below W.heap.size W w'):=fun W hw=>by rw [←hS,←hP];exact LF hs W hw
 obtain ⟨Y,hY⟩ : ∃ z,Bs S=z:=⟨_,rfl⟩
 have HY:Hid (L32 Y):=by rw [←hY];exact L32.bs _
 have HYE:Hid (Bs S=Y):=hY
 have HB8:Hid (∀ W,Glo Ve.MA W→Calls Tryz.prog 18 #[.agg (bv S).toArray] W fun e w'=>e = .returned (.agg (bv Y).toArray)∧Below W.heap.size W w'):=fun W hw=>by rw [←hY];exact tG HS.out W (Ve.gp hw)
 obtain ⟨o,ho⟩ : ∃ z,inq Y p=z:=⟨_,rfl⟩
 have HIL:Hid (L32 (gU o)):=by rw [←ho];exact kc _ _ 256
 have HPO:Hid (∀ W,Sl W v p→Glo Ve.MA W→Calls Tryz.prog 19 #[.agg (bv Y).toArray,v] W fun e w'=>e = .returned (.tuple #[.agg (bv (gU o)).toArray,.int .i64 (mA o)])∧Below W.heap.size W w'):=fun W h1 h2=>by rw [←ho];exact l9 Y p HY.out hp hl v W h1 h2
 have hpi:pvI s p=o:=by unfold pvI;rw [hS,hY,ho]
 have HPI:Hid (pvI s p=o):=hpi
 have hz:=bG
 obtain ⟨Z,hZ⟩ : ∃ Z,(bv (List.replicate 32 0)).toArray=Z:=⟨_,rfl⟩
 have hZs:Z.size=32:=by rw [←hZ];simp [bv]
 have HZS:Hid (Z.size=32):=hZs
 have HZE:Hid ((bv z32).toArray=Z):=hZ
 rw [hZ] at hz
 have HVW:Hid (Sl w v p):=hv
 rw [hpi]
 obtain ⟨I,hI⟩ : ∃ z,gU o=z:=⟨_,rfl⟩
 obtain ⟨ek,hek⟩ : ∃ z,mA o=z:=⟨_,rfl⟩
 have HI:Hid (L32 I):=by rw [←hI];exact HIL.out
 have HIE:Hid (gU o=I):=hI
 have HEK:Hid (mA o=ek):=hek
 rw [hI,hek] at HPO
 rw [hek]
 clear hI hek HIL
 have hzr:=eP
 obtain ⟨ZR,hZR⟩ : ∃ Z,(bv (List.replicate 80 0)).toArray=Z:=⟨_,rfl⟩
 have hZRs:ZR.size=80:=by rw [←hZR];simp [bv]
 have HZR:Hid (ZR.size=80):=hZRs
 have HZRE:Hid ((bv (List.replicate 80 0)).toArray=ZR):=hZR
 rw [hZR] at hzr
 obtain ⟨A0,hA0⟩ : ∃ A,(bv s).toArray=A:=⟨_,rfl⟩
 rw [hA0]
 obtain ⟨U,hU⟩ : ∃ U,((w.alloc (.cells A0 22)).alloc (.cells ZR 25))=U:=⟨_,rfl⟩
 have sU:U.heap.size=w.heap.size+2:=by rw [←hU];simp
 have bU:Below w.heap.size w U:=by rw [←hU];exact (((Below.refl _ w).alloc (by first | exact Nat.le_refl _ | (simp only [World.size_alloc];omega)) _).alloc (by first | exact Nat.le_refl _ | (simp only [World.size_alloc];omega)) _)
 have r0:U.rangeAt (w.heap.size) 0 (bv s):=fun j v hj=>by rw [Nat.zero_add,cell_of_row U _ j _ _ _ (show U.heap[w.heap.size]? = some (.cells A0 22 (0,0)) by rw [←hU];exact aV [.cells A0 22 (0,0),.cells ZR 25 (0,0)] w.heap 0 _ rfl),←hA0,List.getElem?_toArray];exact hj
 have thr:U.there (w.heap.size+1) 0 80:=aO (show U.heap[w.heap.size+1]? = some (.cells ZR 25 (0,0)) by rw [←hU];exact aV [.cells A0 22 (0,0),.cells ZR 25 (0,0)] w.heap 1 _ rfl) 0 80 (by omega)
 have BU:Hid (Below w.heap.size w U):=bU
 obtain ⟨D,hD⟩ : ∃ D,w.heap.size=D:=⟨_,rfl⟩
 have HD:Hid (w.heap.size=D):=hD
 rw [hD] at sU thr r0
 have SU:Hid (U.heap.size=D+2):=sU
 have THR:Hid (U.there (D+1) 0 80):=thr
 have LTR:Hid (D+1<U.heap.size):=by show _<_;omega
 have R0:Hid (U.rangeAt (D) 0 (bv s)):=r0
 have L0:Hid (D<U.heap.size):=by show _<_;omega
 clear sU bU thr hZR hZRs r0 hA0
 have HGU:Hid (Glo Ve.MA U):=hg.below BU.out
 clear hg hs hp hl hv ho hpi hY hZ hZs
 go_enter Tryz.func9,Tryz.ntmps9
 go_upto_region 1 with (fail)
 try rw [hU]
 try rw [hD]
 clear hU hD
 go_upto_region 2 with (first
  | (refine wpList_load_mid rfl 22 (.tmp 2) rfl (D) 0 rfl (bv s) _ R0.out Tryz.underlying22 rfl (by rw [ae,HS0.out.len];exact aF) ?_)
  | (go_at_call 17;refine (HHV.out U HGU.out).mono ?_;rintro e W1 ⟨rfl,g1⟩;have BW1:Hid (Below U.heap.size U W1):=g1;obtain ⟨V,hV⟩ : ∃ V,(W1.alloc (.cells Z 22)).alloc (.cells Z 22)=V:=⟨_,rfl⟩;obtain ⟨a4,a5,hX⟩:=Nw W1 HZS.out HZS.out HS.out.len HP.out.len hV;have A4:Hid _:=a4;have A5:Hid _:=a5;clear a4 a5;clear g1)
  | (refine wpList_store_mid rfl 22 (.tmp 6) (.tmp 18) rfl (W1.heap.size) 0 (bv S).toArray rfl rfl (aK (HS.out.len) (A4.out)) (aC (HS.out.len) aF) (ar _) ?_;simp only [YN])
  | (refine wpList_store_mid rfl 22 (.tmp 7) (.tmp 19) rfl (W1.heap.size+1) 0 (bv P).toArray rfl rfl (aK (HP.out.len) (A5.out)) (aC (HP.out.len) aF) (ar _) ?_;simp only [YN]))
 obtain ⟨e6,he6⟩ : ∃ n,W1.heap.size=n:=⟨_,rfl⟩
 obtain ⟨W2,hW2⟩ : ∃ X,(V.setCells W1.heap.size 0 (bv S)).setCells (W1.heap.size+1) 0 (bv P)=X:=⟨_,rfl⟩
 obtain ⟨r4,r5,bX,sX⟩:=hX W2 hW2
 have BW2:Hid (Below W1.heap.size W1 W2):=bX
 rw [he6] at r4 r5 sX
 have RS2:Hid (W2.rangeAt e6 0 (bv S)):=r4
 have LS2:Hid (e6<W2.heap.size):=by show _<_;omega
 have RP2:Hid (W2.rangeAt (e6+1) 0 (bv P)):=r5
 have LP2:Hid (e6+1<W2.heap.size):=by show _<_;omega
 have BU2:Hid (Below U.heap.size U W2):=Below.tr' BW1.out BW2.out
 have HG2:Hid (Glo Ve.MA W2):=aE HGU.out BU2.out
 try rw [hW2]
 try rw [he6]
 clear r4 r5 bX sX hX he6 hW2 A4 A5 hV BW1 BW2 R0 L0
 go_upto_region 3 with (first
  | (refine wpList_load_mid rfl 22 (.tmp 6) rfl (e6) 0 rfl (bv S) _ RS2.out Tryz.underlying22 rfl (by rw [ae,HS.out.len];exact aF) ?_)
  | (go_at_call 18;refine (HB8.out W2 HG2.out).mono ?_;rintro e W3 ⟨rfl,g1⟩;have BW3:Hid (Below W2.heap.size W2 W3):=g1;clear g1)
  | (refine wpList_store_mid rfl 22 (.tmp 8) (.tmp 21) rfl W3.heap.size 0 (bv Y).toArray rfl rfl (bK W3 (HY.out.len) HZS.out) (aC (HY.out.len) aF) (ar _) ?_;simp only [YN]))
 obtain ⟨e8,he8⟩ : ∃ n,W3.heap.size=n:=⟨_,rfl⟩
 obtain ⟨W4,hW4⟩ : ∃ W,(W3.alloc (.cells Z 22)).setCells W3.heap.size 0 (bv Y)=W:=⟨_,rfl⟩
 obtain ⟨l1,l2,l3⟩:=aS (by rw [ae,HY.out.len,HZS.out]) (by rw [ae,HY.out.len];omega) hW4
 have BW4:Hid (Below W3.heap.size W3 W4):=l2
 have RY4:Hid (W4.rangeAt e8 0 (bv Y)):=by rw [←he8];exact l1
 have LY4:Hid (e8<W4.heap.size):=by rw [←he8];exact l3
 try rw [hW4]
 try rw [he8]
 clear l1 l2 l3 hW4 he8
 have B24:Hid (Below W2.heap.size W2 W4):=Below.tr' BW3.out BW4.out
 have RS4:Hid (W4.rangeAt (e6) 0 (bv S)):=aa RS2.out B24.out LS2.out
 have LS4:Hid (e6<W4.heap.size):=YI LS2.out B24.out.size
 have RP4:Hid (W4.rangeAt (e6+1) 0 (bv P)):=aa RP2.out B24.out LP2.out
 have LP4:Hid (e6+1<W4.heap.size):=YI LP2.out B24.out.size
 clear RS2 LS2 RP2 LP2
 have BU4:Hid (Below U.heap.size U W4):=Below.tr' BU2.out B24.out
 have HG4:Hid (Glo Ve.MA W4):=aE HGU.out BU4.out
 have HV4:Hid (Sl W4 v p):=HVW.out.below (Below.tr' BU.out BU4.out) (Nat.le_refl _)
 clear BW3 BW4 B24 BU2 HG2
 obtain ⟨a0,c0,hv0,-,-⟩:=id HVW.out
 obtain ⟨n0,hn0⟩ : ∃ n,p.length=n:=⟨_,rfl⟩
 rw [hn0] at hv0
 subst hv0
 clear hn0
 go_upto_region 4 with (first
  | (refine wpList_load_mid rfl 22 (.tmp 8) rfl (e8) 0 rfl (bv Y) _ RY4.out Tryz.underlying22 rfl (by rw [ae,HY.out.len];exact aF) ?_)
  | (go_at_call 19;refine (HPO.out W4 HV4.out HG4.out).mono ?_;rintro e W5 ⟨rfl,g1⟩;have BW5:Hid (Below W4.heap.size W4 W5):=g1;clear g1)
  | (refine wpList_store_mid rfl 22 (.tmp 9) (.tmp 26) rfl W5.heap.size 0 (bv I).toArray rfl rfl (bK W5 (HI.out.len) HZS.out) (aC (HI.out.len) aF) (ar _) ?_;simp only [YN]))
 obtain ⟨e9,he9⟩ : ∃ n,W5.heap.size=n:=⟨_,rfl⟩
 obtain ⟨W6,hW6⟩ : ∃ W,(W5.alloc (.cells Z 22)).setCells W5.heap.size 0 (bv I)=W:=⟨_,rfl⟩
 obtain ⟨l1,l2,l3⟩:=aS (by rw [ae,HI.out.len,HZS.out]) (by rw [ae,HI.out.len];omega) hW6
 have BW6:Hid (Below W5.heap.size W5 W6):=l2
 have RI6:Hid (W6.rangeAt e9 0 (bv I)):=by rw [←he9];exact l1
 have LI6:Hid (e9<W6.heap.size):=by rw [←he9];exact l3
 try rw [hW6]
 try rw [he9]
 clear l1 l2 l3 hW6 he9
 have B46:Hid (Below W4.heap.size W4 W6):=Below.tr' BW5.out BW6.out
 have RS6:Hid (W6.rangeAt (e6) 0 (bv S)):=aa RS4.out B46.out LS4.out
 have LS6:Hid (e6<W6.heap.size):=YI LS4.out B46.out.size
 have RP6:Hid (W6.rangeAt (e6+1) 0 (bv P)):=aa RP4.out B46.out LP4.out
 have LP6:Hid (e6+1<W6.heap.size):=YI LP4.out B46.out.size
 have RY6:Hid (W6.rangeAt (e8) 0 (bv Y)):=aa RY4.out B46.out LY4.out
 have LY6:Hid (e8<W6.heap.size):=YI LY4.out B46.out.size
 clear RS4 LS4 RP4 LP4 RY4 LY4
 have BU6:Hid (Below U.heap.size U W6):=Below.tr' BU4.out B46.out
 have HG6:Hid (Glo Ve.MA W6):=aE HGU.out BU6.out
 clear BW5 BW6 B46 BU4 HG4 HV4
 cases o with
 | none =>
  obtain rfl:ek=4:=HEK.out.symm
  have HO:Hid (pvV s p=List.replicate 80 0):=by show _=_;rw [pvV,HPI.out,pvW]
  have HBZ:Hid (∀ W:World,(Instr.build 25 #[]).run Tryz.prog W = .ok (.agg ZR) W):=fun W=>by rw [←HZRE.out];exact tU W
  obtain ⟨E0,hE0⟩ : ∃ z,List.replicate 80 (0:Int)=z:=⟨_,rfl⟩
  have HE:Hid (E0.length=80):=by rw [←hE0];exact List.length_replicate
  have HEE:Hid (ZR=(bv E0).toArray):=by rw [←hE0];exact HZRE.out.symm
  have HO2:Hid (pvV s p=E0):=by rw [←hE0];exact HO.out
  rw [HEE.out] at HBZ
  have THd:Hid _:=an THR.out BU6.out LTR.out
  clear hE0 HO HEE HZRE
  go_wp2_with (first
   | (refine bm 25 rfl rfl _ (HBZ.out _) ?_)
   | (refine wpList_store_mid rfl 25 (.tmp 4) (.tmp 30) rfl (D+1) 0 (bv E0).toArray rfl rfl (aK (HE.out) (THd.out)) (aC (HE.out) ct) (ar _) ?_;simp only [YN]))
  have qq:(W6.setCells (D+1) 0 (bv E0)).rangeAt (D+1) 0 (bv E0):=World.rangeAt_setCells_same _ _ _ _ (by rw [ae,HE.out];exact THd.out)
  have hbl:Below w.heap.size w (W6.setCells (D+1) 0 (bv E0)):=af (by rw [HD.out];omega) _ _ (BU.out.trans (BU6.out.mono BU.out.size))
  try simp only [Exit.inBlock,Exit.then]
  refine bodyPost_ret (v := .tuple #[.agg (bv E0).toArray,.int .i64 4]) ?_ rfl ⟨by rw [HO2.out],hbl⟩
  exact au Tryz.results9 _ _ (D+1) 0 (bv E0) _ _ rfl rfl qq Tryz.underlying25 rfl (by rw [ae,HE.out];exact ct)
 | some I0 =>
  obtain rfl:ek=0:=HEK.out.symm
  obtain rfl:I0=I:=HIE.out
  have HO:Hid (pvV s p=pvO s I0):=by show _=_;rw [pvV,HPI.out,pvW]
  obtain ⟨I,hII⟩ : ∃ z,I0=z:=⟨_,rfl⟩
  subst hII
  obtain ⟨G,hG⟩ : ∃ z,Ml S I0=z:=⟨_,rfl⟩
  have HG:Hid (L32 G):=by rw [←hG];exact L32.ml _ _
  obtain ⟨J,hJ⟩ : ∃ z,joA [P,I0]=z:=⟨_,rfl⟩
  obtain ⟨H,hH⟩ : ∃ z,h5 J=z:=⟨_,rfl⟩
  obtain ⟨K,hK⟩ : ∃ z,rd H=z:=⟨_,rfl⟩
  have HJ:Hid (joA [P,I0]=J):=hJ
  have HH:Hid (h5 J=H):=hH
  have HK:Hid (L32 K):=by rw [←hK];exact L32.rd _
  have HJB:Hid (Byt J):=by rw [←hJ];exact (Byt.nil.append HP.out.byt).append HI.out.byt
  have HJL:Hid (J.length≤140737488354000):=by
   rw [←hJ];show (([] ++ P) ++ I0).length≤_
   simp only [List.length_append,HP.out.len,HI.out.len];decide
  have HRD:Hid (∀ W,Calls Tryz.prog 21 #[.agg (bv H).toArray] W fun e w'=>e = .returned (.agg (bv K).toArray)∧Below W.heap.size W w'):=fun W=>by rw [←hK];exact KB (by rw [←hH];exact bq _) (by rw [←hH];exact dS _) W
  obtain ⟨BK,hBK⟩ : ∃ z,Bs K=z:=⟨_,rfl⟩
  have HBKL:Hid (L32 BK):=by rw [←hBK];exact L32.bs _
  have HBK:Hid (∀ W,Glo Ve.MA W→Calls Tryz.prog 18 #[.agg (bv K).toArray] W fun e w'=>e = .returned (.agg (bv BK).toArray)∧Below W.heap.size W w'):=fun W hw=>by rw [←hBK];exact tG HK.out W (Ve.gp hw)
  obtain ⟨KI,hKI⟩ : ∃ z,Ml K I0=z:=⟨_,rfl⟩
  have HKIL:Hid (L32 KI):=by rw [←hKI];exact L32.ml _ _
  have HKI:Hid (∀ W,Glo Ve.MA W→Calls Tryz.prog 20 #[.agg (bv K).toArray,.agg (bv I0).toArray] W fun e w'=>e = .returned (.agg (bv KI).toArray)∧Below W.heap.size W w'):=fun W hw=>by rw [←hKI];exact Ve.oa HK.out HI.out W hw
  have HGC:Hid (∀ W,Glo Ve.MA W→Calls Tryz.prog 20 #[.agg (bv S).toArray,.agg (bv I0).toArray] W fun e w'=>e = .returned (.agg (bv G).toArray)∧Below W.heap.size W w'):=fun W hw=>by rw [←hG];exact Ve.oa HS.out HI.out W hw
  obtain ⟨C,hC⟩ : ∃ z,chl Y I0 G BK KI=z:=⟨_,rfl⟩
  have HC:Hid (C.length=16):=by rw [←hC];exact kr _ _ _ _ _
  have HCB:Hid (Byt C):=by rw [←hC];exact mQ _ _ _ _ _
  have HCH:Hid (∀ W,Glo Ve.MA W→Calls Tryz.prog 24 #[.agg (bv Y).toArray,.agg (bv I0).toArray,.agg (bv G).toArray,.agg (bv BK).toArray,.agg (bv KI).toArray] W fun e w'=>e = .returned (.agg (bv C).toArray)∧Below W.heap.size W w'):=fun W hw=>by rw [←hC];exact jA _ _ _ _ _ HY.out HI.out HG.out HBKL.out HKIL.out W hw
  obtain ⟨X,hXE⟩ : ∃ z,wd C=z:=⟨_,rfl⟩
  have HXE:Hid (wd C=X):=hXE
  have HX:Hid (L32 X):=by rw [←hXE];exact L32.wd HC.out HCB.out
  obtain ⟨D2,hD2⟩ : ∃ z,md X S K=z:=⟨_,rfl⟩
  have HD2:Hid (L32 D2):=by rw [←hD2];exact L32.md _ _ _
  have HMA:Hid (∀ W,Calls Tryz.prog 25 #[.agg (bv X).toArray,.agg (bv S).toArray,.agg (bv K).toArray] W fun e w'=>e = .returned (.agg (bv D2).toArray)∧Below W.heap.size W w'):=fun W=>by rw [←hD2];exact Ly HX.out HS.out HK.out W
  obtain ⟨O,hO⟩ : ∃ z,joA [G,C,D2]=z:=⟨_,rfl⟩
  have HOE:Hid (joA [G,C,D2]=O):=hO
  have hpo:pvO s I0=O:=by
   have k:pvK s I0=K:=by unfold pvK;rw [hP,hJ,hH,hK]
   have c:pvC s I0=C:=by unfold pvC;rw [k,hS,HYE.out,hG,hBK,hKI,hC]
   unfold pvO
   rw [c,k,hS,hG,hXE,hD2,hO]
  have HOL:Hid (O.length=80):=by rw [←hpo];exact sP _ _
  have HO2:Hid (pvV s p=O):=by rw [←hpo];exact HO.out
  clear hG hJ hH hK hBK hKI hC hXE hD2 hO hpo HO HBKL HKIL
  go_upto_region 7 with (first
   | (refine wpList_load_mid rfl 22 (.tmp 6) rfl (e6) 0 rfl (bv S) _ RS6.out Tryz.underlying22 rfl (by rw [ae,HS.out.len];exact aF) ?_)
   | (refine wpList_load_mid rfl 22 (.tmp 9) rfl (e9) 0 rfl (bv I0) _ RI6.out Tryz.underlying22 rfl (by rw [ae,HI.out.len];exact aF) ?_)
   | (go_at_call 20;refine (HGC.out W6 HG6.out).mono ?_;rintro e W7 ⟨rfl,g1⟩;have BW7:Hid (Below W6.heap.size W6 W7):=g1;clear g1)
   | (refine wpList_store_mid rfl 22 (.tmp 11) (.tmp 34) rfl W7.heap.size 0 (bv G).toArray rfl rfl (bK W7 (HG.out.len) HZS.out) (aC (HG.out.len) aF) (ar _) ?_;simp only [YN]))
  obtain ⟨e11,he11⟩ : ∃ n,W7.heap.size=n:=⟨_,rfl⟩
  obtain ⟨W8,hW8⟩ : ∃ W,(W7.alloc (.cells Z 22)).setCells W7.heap.size 0 (bv G)=W:=⟨_,rfl⟩
  obtain ⟨l1,l2,l3⟩:=aS (by rw [ae,HG.out.len,HZS.out]) (by rw [ae,HG.out.len];omega) hW8
  have BW8:Hid (Below W7.heap.size W7 W8):=l2
  have RG8:Hid (W8.rangeAt e11 0 (bv G)):=by rw [←he11];exact l1
  have LG8:Hid (e11<W8.heap.size):=by rw [←he11];exact l3
  try rw [hW8]
  try rw [he11]
  clear l1 l2 l3 hW8 he11
  have B68:Hid (Below W6.heap.size W6 W8):=Below.tr' BW7.out BW8.out
  have RS8:Hid (W8.rangeAt (e6) 0 (bv S)):=aa RS6.out B68.out LS6.out
  have LS8:Hid (e6<W8.heap.size):=YI LS6.out B68.out.size
  have RP8:Hid (W8.rangeAt (e6+1) 0 (bv P)):=aa RP6.out B68.out LP6.out
  have LP8:Hid (e6+1<W8.heap.size):=YI LP6.out B68.out.size
  have RY8:Hid (W8.rangeAt (e8) 0 (bv Y)):=aa RY6.out B68.out LY6.out
  have LY8:Hid (e8<W8.heap.size):=YI LY6.out B68.out.size
  have RI8:Hid (W8.rangeAt (e9) 0 (bv I0)):=aa RI6.out B68.out LI6.out
  have LI8:Hid (e9<W8.heap.size):=YI LI6.out B68.out.size
  clear RS6 LS6 RP6 LP6 RY6 LY6 RI6 LI6
  have BU8:Hid (Below U.heap.size U W8):=Below.tr' BU6.out B68.out
  have HG8:Hid (Glo Ve.MA W8):=aE HGU.out BU8.out
  clear BW7 BW8 B68 BU6 HG6
  refine RG.wp_rgn' (GI W8 (Py e6 e9 H K) (phP [P,I0] J) [(6,7,bv K,bv z32)]) (by kernel_rfl) (by kernel_rfl) GI.start ?_ ?_
  ·refine ⟨?_,?_,?_,?_,?_,?_,?_,?_,trivial⟩
   ·intro a W d V hI hd hpx hbk hf hp
    have hO':Below W8.heap.size W8 W:=hI.be
    refine RU.ob_val (v := .slice (some ⟨e6+1,0,none⟩) 32 32) rfl (RU.wanted_none rfl) (fun ev he hc => ?_) ⟨_,rfl,hI.step (fi [P,I0] J) (Below.refl _ _) 0 _ (by simp) (fun u hu=>by first | (cases hu;rfl) | cases hu) (trivial)⟩
    have q7:ev (.tmp 7) = .pointer (some ⟨e6+1,0,none⟩):=(he (.tmp 7)).trans (hf 7 rfl)
    simp only [qF,qD,qE,execOp,YO,YP];rw [q7]
    first | (go_simp;done) | (go_simp;rfl) | rfl
   ·intro a W d V hI hd hpx hbk hf hp
    have hO':Below W8.heap.size W8 W:=hI.be
    refine RU.ob_val (v := .slice (some ⟨e9,0,none⟩) 32 32) rfl (RU.wanted_none rfl) (fun ev he hc => ?_) ⟨_,rfl,hI.step (fi [P,I0] J) (Below.refl _ _) 1 _ (by simp) (fun u hu=>by first | (cases hu;rfl) | cases hu) (trivial)⟩
    have q9:ev (.tmp 9) = .pointer (some ⟨e9,0,none⟩):=(he (.tmp 9)).trans (hf 9 rfl)
    simp only [qF,qD,qE,execOp,YO,YP];rw [q9]
    first | (go_simp;done) | (go_simp;rfl) | rfl
   ·intro a W d V hI hd hpx hbk hf hp
    have hO':Below W8.heap.size W8 W:=hI.be
    have e35:a.eval (.tmp 35) = .slice (some ⟨e6+1,0,none⟩) 32 32:=(hp 0 35 rfl).trans (hI.kn 0 _ rfl (hpx 0 rfl))
    have e36:a.eval (.tmp 36) = .slice (some ⟨e9,0,none⟩) 32 32:=(hp 1 36 rfl).trans (hI.kn 1 _ rfl (hpx 1 rfl))
    have s0:Sl W (.slice (some ⟨e6+1,0,none⟩) 32 32) P:=bo HP.out (aa RP8.out hO' LP8.out) (YI LP8.out hO'.size)
    have s1:Sl W (.slice (some ⟨e9,0,none⟩) 32 32) I0:=bo HI.out (aa RI8.out hO' LI8.out) (YI LI8.out hO'.size)
    have hb:Below W.heap.size W (W.alloc (.cells ([.slice (some ⟨e6+1,0,none⟩) 32 32,.slice (some ⟨e9,0,none⟩) 32 32]:List Value).toArray 23)):=(Below.refl _ W).alloc (Nat.le_refl _) _
    have hll:LL (W.alloc (.cells ([.slice (some ⟨e6+1,0,none⟩) 32 32,.slice (some ⟨e9,0,none⟩) 32 32]:List Value).toArray 23)) (.slice (some ⟨W.heap.size,0,none⟩) 2 2) [P,I0]:=lW _ _ _ 2 rfl rfl (fun i u hu=>by
     match i,hu with
     | 0,hu=>cases hu;exact s0
     | 1,hu=>cases hu;exact s1
     | n+2,hu=>simp at hu)
    refine RU.ob_run (v := .slice (some ⟨W.heap.size,0,none⟩) 2 2) (w':=W.alloc (.cells ([.slice (some ⟨e6+1,0,none⟩) 32 32,.slice (some ⟨e9,0,none⟩) 32 32]:List Value).toArray 23)) rfl (RU.wanted_none rfl) (fun ev he hc => ?_) ⟨_,rfl,hI.step (fi [P,I0] J) hb 2 _ (by simp) (fun u hu=>by cases hu) hll⟩
    have h35:=(he (.tmp 35)).trans e35
    have h36:=(he (.tmp 36)).trans e36
    simp only [qF,qD,qE,execOp]
    simp only [List.map_toArray,List.map_cons,List.map_nil,h35,h36]
    first | (go_simp;done) | (go_simp;rfl)
   ·intro a W d V hI hd hpx hbk hf hp
    have hO':Below W8.heap.size W8 W:=hI.be
    have e37:a.eval (.tmp 37)=V 2:=hp 2 37 rfl
    have hno : ∀ x ∈ ([(6,7,bv K,bv z32)]:List Al),d x.2.1=false:=by simp only [List.mem_cons,List.not_mem_nil,or_false,forall_eq_or_imp,forall_eq];exact hbk 7 rfl
    refine RU.ob_call (g:=23) (args := #[V 2]) rfl (RU.wanted_none rfl) (fun ev he hc => ?_) ((fg [P,I0] J HJ.out (V 2) W (hI.pr 2 (hpx 2 rfl) hno) (Nat.le_trans HJL.out (by decide)) (by show 2≤1000;omega)).mono ?_)
    ·have h37:=(he (.tmp 37)).trans e37
     have hfn:=he (.func 23)
     simp only [qF,qD,qE,execOp,YO,YP]
     simp only [resolve,invoke,Sem.run_bind,Sem.run_pure,Result.andThen_ok,List.map_toArray,List.map_cons,List.map_nil,h37,hfn,Act.eval,hc]
     rfl
    ·rintro e' W2 ⟨v9,rfl,g1,hb2⟩
     exact ⟨_,rfl,⟨_,rfl,hI.step (fi [P,I0] J) hb2 3 _ (by simp) (fun u hu=>by first | (cases hu;rfl) | cases hu) (g1.sq)⟩⟩
   ·intro a W d V hI hd hpx hbk hf hp
    have hO':Below W8.heap.size W8 W:=hI.be
    have e38:a.eval (.tmp 38)=V 3:=hp 3 38 rfl
    have hno : ∀ x ∈ ([(6,7,bv K,bv z32)]:List Al),d x.2.1=false:=by simp only [List.mem_cons,List.not_mem_nil,or_false,forall_eq_or_imp,forall_eq];exact hbk 7 rfl
    refine RU.ob_call (g:=22) (args := #[V 3]) rfl (RU.wanted_none rfl) (fun ev he hc => ?_) ((gh J H (V 3) HH.out HJL.out W (Ve.gp (aE HG8.out hO')).tb HJB.out (hI.pr 3 (hpx 3 rfl) hno)).mono ?_)
    ·have h38:=(he (.tmp 38)).trans e38
     have hfn:=he (.func 22)
     simp only [qF,qD,qE,execOp,YO,YP]
     simp only [resolve,invoke,Sem.run_bind,Sem.run_pure,Result.andThen_ok,List.map_toArray,List.map_cons,List.map_nil,h38,hfn,Act.eval,hc]
     rfl
    ·rintro e' W2 ⟨rfl,hb2⟩
     exact ⟨_,rfl,⟨_,rfl,hI.step (fi [P,I0] J) hb2 4 _ (by simp) (fun u hu=>by first | (cases hu;rfl) | cases hu) (trivial)⟩⟩
   ·intro a W d V hI hd hpx hbk hf hp
    have hO':Below W8.heap.size W8 W:=hI.be
    have e39:a.eval (.tmp 39) = .agg (bv H).toArray:=(hp 4 39 rfl).trans (hI.kn 4 _ rfl (hpx 4 rfl))
    have hno : ∀ x ∈ ([(6,7,bv K,bv z32)]:List Al),d x.2.1=false:=by simp only [List.mem_cons,List.not_mem_nil,or_false,forall_eq_or_imp,forall_eq];exact hbk 7 rfl
    refine RU.ob_call (g:=21) (args := #[.agg (bv H).toArray]) rfl (RU.wanted_none rfl) (fun ev he hc => ?_) ((HRD.out W).mono ?_)
    ·have h39:=(he (.tmp 39)).trans e39
     have hfn:=he (.func 21)
     simp only [qF,qD,qE,execOp,YO,YP]
     simp only [resolve,invoke,Sem.run_bind,Sem.run_pure,Result.andThen_ok,List.map_toArray,List.map_cons,List.map_nil,h39,hfn,Act.eval,hc]
     rfl
    ·rintro e' W2 ⟨rfl,hb2⟩
     exact ⟨_,rfl,⟨_,rfl,hI.step (fi [P,I0] J) hb2 5 _ (by simp) (fun u hu=>by first | (cases hu;rfl) | cases hu) (trivial)⟩⟩
   ·intro a W d V hI hd hpx hbk hf hp
    have hO':Below W8.heap.size W8 W:=hI.be
    refine RU.ob_run (v := .pointer (some ⟨W.heap.size,0,none⟩)) (w':=W.alloc (.cells (bv z32).toArray 22)) rfl (RU.wanted_none rfl) (fun ev he hc => ?_) ⟨_,rfl,hI.alloc (fi [P,I0] J) (6,7,bv K,bv z32) (by simp) 22 (hbk 7 rfl) (by simp) (by simp) rfl (fun _ _=>trivial)⟩
    simp only [qF,qD,qE,execOp]
    first | (go_simp;done) | (go_simp;rfl) | (go_simp;rw [HZE.out])
   ·intro a W d V hI hd hpx hbk hf hp
    have hO':Below W8.heap.size W8 W:=hI.be
    have d9:d 6=true:=hpx 6 rfl
    obtain ⟨b,hV,-,-,hth,-⟩:=hI.pt (6,7,bv K,bv z32) (by simp) d9
    have qp:a.eval (.tmp 12) = .pointer (some ⟨b,0,none⟩):=(hp 6 12 rfl).trans hV
    have qv:a.eval (.tmp 40) = .agg (bv K).toArray:=(hp 5 40 rfl).trans (hI.kn 5 _ rfl (hpx 5 rfl))
    exact RU.ob_op rfl (RU.wanted_none rfl) (wp_store_mid 22 (.tmp 12) (.tmp 40) rfl b 0 (bv K).toArray qp qv (by rw [List.size_toArray,(show (bv K).length=(bv z32).length by rw [ae,ae,HK.out.len,cr.len])];exact hth) (by rw [List.size_toArray];exact aD HK.out) (ar _) ⟨_,rfl,by simp only [YN];exact hI.store (6,7,bv K,bv z32) (by simp) d9 hV _ (by simp) (by simp) rfl (show (bv K).length=(bv z32).length by rw [ae,ae,HK.out.len,cr.len]) (by simp)⟩)
  intro W9 dW9 VW9 hal hI
  have BW9:Hid (Below W8.heap.size W8 W9):=hI.be
  have hs0:VW9 0 = .slice (some ⟨e6+1,0,none⟩) 32 32:=hI.kn 0 _ rfl (hal 0 (by decide))
  have hs1:VW9 1 = .slice (some ⟨e9,0,none⟩) 32 32:=hI.kn 1 _ rfl (hal 1 (by decide))
  obtain ⟨u2,hs2⟩ : ∃ u,VW9 2=u:=⟨_,rfl⟩
  obtain ⟨u3,hs3⟩ : ∃ u,VW9 3=u:=⟨_,rfl⟩
  have hs4:VW9 4 = .agg (bv H).toArray:=hI.kn 4 _ rfl (hal 4 (by decide))
  have hs5:VW9 5 = .agg (bv K).toArray:=hI.kn 5 _ rfl (hal 5 (by decide))
  obtain ⟨b6,hs6,hb6,hl6,-,hr6⟩:=hI.pt (6,7,bv K,bv z32) (by simp) (hal 6 (by decide))
  have hs6:VW9 6 = .pointer (some ⟨b6,0,none⟩):=hs6
  have R6W9:Hid (W9.rangeAt b6 0 (bv K)):=by have h9:dW9 7=true:=hal 7 (by decide);simp only [h9,if_true] at hr6;exact hr6
  have L6W9:Hid (b6<W9.heap.size):=hl6
  have G6W9:Hid (W8.heap.size≤b6):=hb6
  simp only [RU.lay,Act.put,hs0,hs1,hs2,hs3,hs4,hs5,hs6]
  simp only [qA,qB,qC]
  clear hI hal hs0 hs1 hs2 hs3 hs4 hs5 hs6 hb6 hl6 hr6
  have RS9:Hid (W9.rangeAt (e6) 0 (bv S)):=aa RS8.out BW9.out LS8.out
  have LS9:Hid (e6<W9.heap.size):=YI LS8.out BW9.out.size
  have RY9:Hid (W9.rangeAt (e8) 0 (bv Y)):=aa RY8.out BW9.out LY8.out
  have LY9:Hid (e8<W9.heap.size):=YI LY8.out BW9.out.size
  have RI9:Hid (W9.rangeAt (e9) 0 (bv I0)):=aa RI8.out BW9.out LI8.out
  have LI9:Hid (e9<W9.heap.size):=YI LI8.out BW9.out.size
  have RG9:Hid (W9.rangeAt (e11) 0 (bv G)):=aa RG8.out BW9.out LG8.out
  have LG9:Hid (e11<W9.heap.size):=YI LG8.out BW9.out.size
  clear RS8 LS8 RY8 LY8 RI8 LI8 RG8 LG8
  have RK9:Hid (W9.rangeAt b6 0 (bv K)):=R6W9
  have LK9:Hid (b6<W9.heap.size):=L6W9
  have BU9:Hid (Below U.heap.size U W9):=Below.tr' BU8.out BW9.out
  have HG9:Hid (Glo Ve.MA W9):=aE HGU.out BU9.out
  clear BW9 BU8 HG8 R6W9 L6W9 G6W9
  go_upto_region 8 with (fail)
  refine RG.wp_rgn' (GI W9 (Pg e8 e9 e11 b6 Y I0 G K BK KI C) (fun _ _ _=>True) [(9,10,bv C,bv z16)]) (by kernel_rfl) (by kernel_rfl) GI.start ?_ ?_
  ·refine ⟨?_,?_,?_,?_,?_,?_,?_,?_,?_,?_,?_,trivial⟩
   ·intro a W d V hI hd hpx hbk hf hp
    have hO':Below W9.heap.size W9 W:=hI.be
    have q8:a.eval (.tmp 8) = .pointer (some ⟨e8,0,none⟩):=hf 8 rfl
    exact RU.ob_op rfl (RU.wanted_none rfl) (wp_load_mid 22 (.tmp 8) rfl (e8) (0) q8 (bv Y) _ (aa RY9.out hO' LY9.out) Tryz.underlying22 rfl (aD HY.out) ⟨_,rfl,hI.step (fun _ _ _ _ _ _=>trivial) (Below.refl _ _) 0 _ (by simp) (fun u hu=>by first | (cases hu;rfl) | cases hu) (trivial)⟩)
   ·intro a W d V hI hd hpx hbk hf hp
    have hO':Below W9.heap.size W9 W:=hI.be
    have q9:a.eval (.tmp 9) = .pointer (some ⟨e9,0,none⟩):=hf 9 rfl
    exact RU.ob_op rfl (RU.wanted_none rfl) (wp_load_mid 22 (.tmp 9) rfl (e9) (0) q9 (bv I0) _ (aa RI9.out hO' LI9.out) Tryz.underlying22 rfl (aD HI.out) ⟨_,rfl,hI.step (fun _ _ _ _ _ _=>trivial) (Below.refl _ _) 1 _ (by simp) (fun u hu=>by first | (cases hu;rfl) | cases hu) (trivial)⟩)
   ·intro a W d V hI hd hpx hbk hf hp
    have hO':Below W9.heap.size W9 W:=hI.be
    have q11:a.eval (.tmp 11) = .pointer (some ⟨e11,0,none⟩):=hf 11 rfl
    exact RU.ob_op rfl (RU.wanted_none rfl) (wp_load_mid 22 (.tmp 11) rfl (e11) (0) q11 (bv G) _ (aa RG9.out hO' LG9.out) Tryz.underlying22 rfl (aD HG.out) ⟨_,rfl,hI.step (fun _ _ _ _ _ _=>trivial) (Below.refl _ _) 2 _ (by simp) (fun u hu=>by first | (cases hu;rfl) | cases hu) (trivial)⟩)
   ·intro a W d V hI hd hpx hbk hf hp
    have hO':Below W9.heap.size W9 W:=hI.be
    have q12:a.eval (.tmp 12) = .pointer (some ⟨b6,0,none⟩):=hf 12 rfl
    exact RU.ob_op rfl (RU.wanted_none rfl) (wp_load_mid 22 (.tmp 12) rfl (b6) (0) q12 (bv K) _ (aa RK9.out hO' LK9.out) Tryz.underlying22 rfl (aD HK.out) ⟨_,rfl,hI.step (fun _ _ _ _ _ _=>trivial) (Below.refl _ _) 3 _ (by simp) (fun u hu=>by first | (cases hu;rfl) | cases hu) (trivial)⟩)
   ·intro a W d V hI hd hpx hbk hf hp
    have hO':Below W9.heap.size W9 W:=hI.be
    have e44:a.eval (.tmp 44) = .agg (bv K).toArray:=(hp 3 44 rfl).trans (hI.kn 3 _ rfl (hpx 3 rfl))
    have hno : ∀ x ∈ ([(9,10,bv C,bv z16)]:List Al),d x.2.1=false:=by simp only [List.mem_cons,List.not_mem_nil,or_false,forall_eq_or_imp,forall_eq];exact hbk 10 rfl
    refine RU.ob_call (g:=18) (args := #[.agg (bv K).toArray]) rfl (RU.wanted_none rfl) (fun ev he hc => ?_) ((HBK.out W (aE HG9.out hO')).mono ?_)
    ·have h44:=(he (.tmp 44)).trans e44
     have hfn:=he (.func 18)
     simp only [qF,qD,qE,execOp,YO,YP]
     simp only [resolve,invoke,Sem.run_bind,Sem.run_pure,Result.andThen_ok,List.map_toArray,List.map_cons,List.map_nil,h44,hfn,Act.eval,hc]
     rfl
    ·rintro e' W2 ⟨rfl,hb2⟩
     exact ⟨_,rfl,⟨_,rfl,hI.step (fun _ _ _ _ _ _=>trivial) hb2 4 _ (by simp) (fun u hu=>by first | (cases hu;rfl) | cases hu) (trivial)⟩⟩
   ·intro a W d V hI hd hpx hbk hf hp
    have hO':Below W9.heap.size W9 W:=hI.be
    have q12:a.eval (.tmp 12) = .pointer (some ⟨b6,0,none⟩):=hf 12 rfl
    exact RU.ob_op rfl (RU.wanted_none rfl) (wp_load_mid 22 (.tmp 12) rfl (b6) (0) q12 (bv K) _ (aa RK9.out hO' LK9.out) Tryz.underlying22 rfl (aD HK.out) ⟨_,rfl,hI.step (fun _ _ _ _ _ _=>trivial) (Below.refl _ _) 5 _ (by simp) (fun u hu=>by first | (cases hu;rfl) | cases hu) (trivial)⟩)
   ·intro a W d V hI hd hpx hbk hf hp
    have hO':Below W9.heap.size W9 W:=hI.be
    have q9:a.eval (.tmp 9) = .pointer (some ⟨e9,0,none⟩):=hf 9 rfl
    exact RU.ob_op rfl (RU.wanted_none rfl) (wp_load_mid 22 (.tmp 9) rfl (e9) (0) q9 (bv I0) _ (aa RI9.out hO' LI9.out) Tryz.underlying22 rfl (aD HI.out) ⟨_,rfl,hI.step (fun _ _ _ _ _ _=>trivial) (Below.refl _ _) 6 _ (by simp) (fun u hu=>by first | (cases hu;rfl) | cases hu) (trivial)⟩)
   ·intro a W d V hI hd hpx hbk hf hp
    have hO':Below W9.heap.size W9 W:=hI.be
    have e46:a.eval (.tmp 46) = .agg (bv K).toArray:=(hp 5 46 rfl).trans (hI.kn 5 _ rfl (hpx 5 rfl))
    have e47:a.eval (.tmp 47) = .agg (bv I0).toArray:=(hp 6 47 rfl).trans (hI.kn 6 _ rfl (hpx 6 rfl))
    have hno : ∀ x ∈ ([(9,10,bv C,bv z16)]:List Al),d x.2.1=false:=by simp only [List.mem_cons,List.not_mem_nil,or_false,forall_eq_or_imp,forall_eq];exact hbk 10 rfl
    refine RU.ob_call (g:=20) (args := #[.agg (bv K).toArray,.agg (bv I0).toArray]) rfl (RU.wanted_none rfl) (fun ev he hc => ?_) ((HKI.out W (aE HG9.out hO')).mono ?_)
    ·have h46:=(he (.tmp 46)).trans e46
     have h47:=(he (.tmp 47)).trans e47
     have hfn:=he (.func 20)
     simp only [qF,qD,qE,execOp,YO,YP]
     simp only [resolve,invoke,Sem.run_bind,Sem.run_pure,Result.andThen_ok,List.map_toArray,List.map_cons,List.map_nil,h46,h47,hfn,Act.eval,hc]
     rfl
    ·rintro e' W2 ⟨rfl,hb2⟩
     exact ⟨_,rfl,⟨_,rfl,hI.step (fun _ _ _ _ _ _=>trivial) hb2 7 _ (by simp) (fun u hu=>by first | (cases hu;rfl) | cases hu) (trivial)⟩⟩
   ·intro a W d V hI hd hpx hbk hf hp
    have hO':Below W9.heap.size W9 W:=hI.be
    have e41:a.eval (.tmp 41) = .agg (bv Y).toArray:=(hp 0 41 rfl).trans (hI.kn 0 _ rfl (hpx 0 rfl))
    have e42:a.eval (.tmp 42) = .agg (bv I0).toArray:=(hp 1 42 rfl).trans (hI.kn 1 _ rfl (hpx 1 rfl))
    have e43:a.eval (.tmp 43) = .agg (bv G).toArray:=(hp 2 43 rfl).trans (hI.kn 2 _ rfl (hpx 2 rfl))
    have e45:a.eval (.tmp 45) = .agg (bv BK).toArray:=(hp 4 45 rfl).trans (hI.kn 4 _ rfl (hpx 4 rfl))
    have e48:a.eval (.tmp 48) = .agg (bv KI).toArray:=(hp 7 48 rfl).trans (hI.kn 7 _ rfl (hpx 7 rfl))
    have hno : ∀ x ∈ ([(9,10,bv C,bv z16)]:List Al),d x.2.1=false:=by simp only [List.mem_cons,List.not_mem_nil,or_false,forall_eq_or_imp,forall_eq];exact hbk 10 rfl
    refine RU.ob_call (g:=24) (args := #[.agg (bv Y).toArray,.agg (bv I0).toArray,.agg (bv G).toArray,.agg (bv BK).toArray,.agg (bv KI).toArray]) rfl (RU.wanted_none rfl) (fun ev he hc => ?_) ((HCH.out W (aE HG9.out hO')).mono ?_)
    ·have h41:=(he (.tmp 41)).trans e41
     have h42:=(he (.tmp 42)).trans e42
     have h43:=(he (.tmp 43)).trans e43
     have h45:=(he (.tmp 45)).trans e45
     have h48:=(he (.tmp 48)).trans e48
     have hfn:=he (.func 24)
     simp only [qF,qD,qE,execOp,YO,YP]
     simp only [resolve,invoke,Sem.run_bind,Sem.run_pure,Result.andThen_ok,List.map_toArray,List.map_cons,List.map_nil,h41,h42,h43,h45,h48,hfn,Act.eval,hc]
     rfl
    ·rintro e' W2 ⟨rfl,hb2⟩
     exact ⟨_,rfl,⟨_,rfl,hI.step (fun _ _ _ _ _ _=>trivial) hb2 8 _ (by simp) (fun u hu=>by first | (cases hu;rfl) | cases hu) (trivial)⟩⟩
   ·intro a W d V hI hd hpx hbk hf hp
    have hO':Below W9.heap.size W9 W:=hI.be
    refine RU.ob_run (v := .pointer (some ⟨W.heap.size,0,none⟩)) (w':=W.alloc (.cells (bv z16).toArray 47)) rfl (RU.wanted_none rfl) (fun ev he hc => ?_) ⟨_,rfl,hI.alloc (fun _ _ _ _ _ _=>trivial) (9,10,bv C,bv z16) (by simp) 47 (hbk 10 rfl) (by simp) (by simp) rfl (fun _ _=>trivial)⟩
    simp only [qF,qD,qE,execOp]
    first | (go_simp;done) | (go_simp;rfl) | (go_simp;rw [ni];rfl)
   ·intro a W d V hI hd hpx hbk hf hp
    have hO':Below W9.heap.size W9 W:=hI.be
    have d9:d 9=true:=hpx 9 rfl
    obtain ⟨b,hV,-,-,hth,-⟩:=hI.pt (9,10,bv C,bv z16) (by simp) d9
    have qp:a.eval (.tmp 13) = .pointer (some ⟨b,0,none⟩):=(hp 9 13 rfl).trans hV
    have qv:a.eval (.tmp 49) = .agg (bv C).toArray:=(hp 8 49 rfl).trans (hI.kn 8 _ rfl (hpx 8 rfl))
    exact RU.ob_op rfl (RU.wanted_none rfl) (wp_store_mid 47 (.tmp 13) (.tmp 49) rfl b 0 (bv C).toArray qp qv (by rw [List.size_toArray,(show (bv C).length=(bv z16).length by rw [ae,ae,HC.out];rfl)];exact hth) (by rw [List.size_toArray];exact (iJ HC.out gX)) (ar _) ⟨_,rfl,by simp only [YN];exact hI.store (9,10,bv C,bv z16) (by simp) d9 hV _ (by simp) (by simp) rfl (show (bv C).length=(bv z16).length by rw [ae,ae,HC.out];rfl) (by simp)⟩)
  intro W10 dW10 VW10 hal hI
  have BW10:Hid (Below W9.heap.size W9 W10):=hI.be
  have hs0:VW10 0 = .agg (bv Y).toArray:=hI.kn 0 _ rfl (hal 0 (by decide))
  have hs1:VW10 1 = .agg (bv I0).toArray:=hI.kn 1 _ rfl (hal 1 (by decide))
  have hs2:VW10 2 = .agg (bv G).toArray:=hI.kn 2 _ rfl (hal 2 (by decide))
  have hs3:VW10 3 = .agg (bv K).toArray:=hI.kn 3 _ rfl (hal 3 (by decide))
  have hs4:VW10 4 = .agg (bv BK).toArray:=hI.kn 4 _ rfl (hal 4 (by decide))
  have hs5:VW10 5 = .agg (bv K).toArray:=hI.kn 5 _ rfl (hal 5 (by decide))
  have hs6:VW10 6 = .agg (bv I0).toArray:=hI.kn 6 _ rfl (hal 6 (by decide))
  have hs7:VW10 7 = .agg (bv KI).toArray:=hI.kn 7 _ rfl (hal 7 (by decide))
  have hs8:VW10 8 = .agg (bv C).toArray:=hI.kn 8 _ rfl (hal 8 (by decide))
  obtain ⟨b9,hs9,hb9,hl9,-,hr9⟩:=hI.pt (9,10,bv C,bv z16) (by simp) (hal 9 (by decide))
  have hs9:VW10 9 = .pointer (some ⟨b9,0,none⟩):=hs9
  have R9W10:Hid (W10.rangeAt b9 0 (bv C)):=by have h9:dW10 10=true:=hal 10 (by decide);simp only [h9,if_true] at hr9;exact hr9
  have L9W10:Hid (b9<W10.heap.size):=hl9
  have G9W10:Hid (W9.heap.size≤b9):=hb9
  simp only [RU.lay,Act.put,hs0,hs1,hs2,hs3,hs4,hs5,hs6,hs7,hs8,hs9]
  simp only [qA,qB,qC]
  clear hI hal hs0 hs1 hs2 hs3 hs4 hs5 hs6 hs7 hs8 hs9 hb9 hl9 hr9
  have RS10:Hid (W10.rangeAt (e6) 0 (bv S)):=aa RS9.out BW10.out LS9.out
  have LS10:Hid (e6<W10.heap.size):=YI LS9.out BW10.out.size
  have RG10:Hid (W10.rangeAt (e11) 0 (bv G)):=aa RG9.out BW10.out LG9.out
  have LG10:Hid (e11<W10.heap.size):=YI LG9.out BW10.out.size
  have RK10:Hid (W10.rangeAt (b6) 0 (bv K)):=aa RK9.out BW10.out LK9.out
  have LK10:Hid (b6<W10.heap.size):=YI LK9.out BW10.out.size
  clear RS9 LS9 RG9 LG9 RK9 LK9
  have RC10:Hid (W10.rangeAt b9 0 (bv C)):=R9W10
  have LC10:Hid (b9<W10.heap.size):=L9W10
  have BU10:Hid (Below U.heap.size U W10):=Below.tr' BU9.out BW10.out
  have HG10:Hid (Glo Ve.MA W10):=aE HGU.out BU10.out
  clear BW10 BU9 HG9 R9W10 L9W10 G9W10
  go_upto_region 9 with (fail)
  refine RG.wp_rgn' (GI W10 (PI e6 b6 b9 S K C X D2) (fun _ _ _=>True) [(5,6,bv D2,bv z32)]) (by kernel_rfl) (by kernel_rfl) GI.start ?_ ?_
  ·refine ⟨?_,?_,?_,?_,?_,?_,?_,trivial⟩
   ·intro a W d V hI hd hpx hbk hf hp
    have hO':Below W10.heap.size W10 W:=hI.be
    have q13:a.eval (.tmp 13) = .pointer (some ⟨b9,0,none⟩):=hf 13 rfl
    exact RU.ob_op rfl (RU.wanted_none rfl) (wp_load_mid 47 (.tmp 13) rfl (b9) (0) q13 (bv C) _ (aa RC10.out hO' LC10.out) Tryz.underlying47 rfl (iJ HC.out gX) ⟨_,rfl,hI.step (fun _ _ _ _ _ _=>trivial) (Below.refl _ _) 0 _ (by simp) (fun u hu=>by first | (cases hu;rfl) | cases hu) (trivial)⟩)
   ·intro a W d V hI hd hpx hbk hf hp
    have hO':Below W10.heap.size W10 W:=hI.be
    have e50:a.eval (.tmp 50) = .agg (bv C).toArray:=(hp 0 50 rfl).trans (hI.kn 0 _ rfl (hpx 0 rfl))
    have hno : ∀ x ∈ ([(5,6,bv D2,bv z32)]:List Al),d x.2.1=false:=by simp only [List.mem_cons,List.not_mem_nil,or_false,forall_eq_or_imp,forall_eq];exact hbk 6 rfl
    refine RU.ob_call (g:=26) (args := #[.agg (bv C).toArray]) rfl (RU.wanted_none rfl) (fun ev he hc => ?_) ((yO HXE.out HC.out W (aE HG10.out hO')).mono ?_)
    ·have h50:=(he (.tmp 50)).trans e50
     have hfn:=he (.func 26)
     simp only [qF,qD,qE,execOp,YO,YP]
     simp only [resolve,invoke,Sem.run_bind,Sem.run_pure,Result.andThen_ok,List.map_toArray,List.map_cons,List.map_nil,h50,hfn,Act.eval,hc]
     rfl
    ·rintro e' W2 ⟨rfl,hb2⟩
     exact ⟨_,rfl,⟨_,rfl,hI.step (fun _ _ _ _ _ _=>trivial) hb2 1 _ (by simp) (fun u hu=>by first | (cases hu;rfl) | cases hu) (trivial)⟩⟩
   ·intro a W d V hI hd hpx hbk hf hp
    have hO':Below W10.heap.size W10 W:=hI.be
    have q6:a.eval (.tmp 6) = .pointer (some ⟨e6,0,none⟩):=hf 6 rfl
    exact RU.ob_op rfl (RU.wanted_none rfl) (wp_load_mid 22 (.tmp 6) rfl (e6) (0) q6 (bv S) _ (aa RS10.out hO' LS10.out) Tryz.underlying22 rfl (aD HS.out) ⟨_,rfl,hI.step (fun _ _ _ _ _ _=>trivial) (Below.refl _ _) 2 _ (by simp) (fun u hu=>by first | (cases hu;rfl) | cases hu) (trivial)⟩)
   ·intro a W d V hI hd hpx hbk hf hp
    have hO':Below W10.heap.size W10 W:=hI.be
    have q12:a.eval (.tmp 12) = .pointer (some ⟨b6,0,none⟩):=hf 12 rfl
    exact RU.ob_op rfl (RU.wanted_none rfl) (wp_load_mid 22 (.tmp 12) rfl (b6) (0) q12 (bv K) _ (aa RK10.out hO' LK10.out) Tryz.underlying22 rfl (aD HK.out) ⟨_,rfl,hI.step (fun _ _ _ _ _ _=>trivial) (Below.refl _ _) 3 _ (by simp) (fun u hu=>by first | (cases hu;rfl) | cases hu) (trivial)⟩)
   ·intro a W d V hI hd hpx hbk hf hp
    have hO':Below W10.heap.size W10 W:=hI.be
    have e51:a.eval (.tmp 51) = .agg (bv X).toArray:=(hp 1 51 rfl).trans (hI.kn 1 _ rfl (hpx 1 rfl))
    have e52:a.eval (.tmp 52) = .agg (bv S).toArray:=(hp 2 52 rfl).trans (hI.kn 2 _ rfl (hpx 2 rfl))
    have e53:a.eval (.tmp 53) = .agg (bv K).toArray:=(hp 3 53 rfl).trans (hI.kn 3 _ rfl (hpx 3 rfl))
    have hno : ∀ x ∈ ([(5,6,bv D2,bv z32)]:List Al),d x.2.1=false:=by simp only [List.mem_cons,List.not_mem_nil,or_false,forall_eq_or_imp,forall_eq];exact hbk 6 rfl
    refine RU.ob_call (g:=25) (args := #[.agg (bv X).toArray,.agg (bv S).toArray,.agg (bv K).toArray]) rfl (RU.wanted_none rfl) (fun ev he hc => ?_) ((HMA.out W).mono ?_)
    ·have h51:=(he (.tmp 51)).trans e51
     have h52:=(he (.tmp 52)).trans e52
     have h53:=(he (.tmp 53)).trans e53
     have hfn:=he (.func 25)
     simp only [qF,qD,qE,execOp,YO,YP]
     simp only [resolve,invoke,Sem.run_bind,Sem.run_pure,Result.andThen_ok,List.map_toArray,List.map_cons,List.map_nil,h51,h52,h53,hfn,Act.eval,hc]
     rfl
    ·rintro e' W2 ⟨rfl,hb2⟩
     exact ⟨_,rfl,⟨_,rfl,hI.step (fun _ _ _ _ _ _=>trivial) hb2 4 _ (by simp) (fun u hu=>by first | (cases hu;rfl) | cases hu) (trivial)⟩⟩
   ·intro a W d V hI hd hpx hbk hf hp
    have hO':Below W10.heap.size W10 W:=hI.be
    refine RU.ob_run (v := .pointer (some ⟨W.heap.size,0,none⟩)) (w':=W.alloc (.cells (bv z32).toArray 22)) rfl (RU.wanted_none rfl) (fun ev he hc => ?_) ⟨_,rfl,hI.alloc (fun _ _ _ _ _ _=>trivial) (5,6,bv D2,bv z32) (by simp) 22 (hbk 6 rfl) (by simp) (by simp) rfl (fun _ _=>trivial)⟩
    simp only [qF,qD,qE,execOp]
    first | (go_simp;done) | (go_simp;rfl) | (go_simp;rw [HZE.out])
   ·intro a W d V hI hd hpx hbk hf hp
    have hO':Below W10.heap.size W10 W:=hI.be
    have d9:d 5=true:=hpx 5 rfl
    obtain ⟨b,hV,-,-,hth,-⟩:=hI.pt (5,6,bv D2,bv z32) (by simp) d9
    have qp:a.eval (.tmp 14) = .pointer (some ⟨b,0,none⟩):=(hp 5 14 rfl).trans hV
    have qv:a.eval (.tmp 54) = .agg (bv D2).toArray:=(hp 4 54 rfl).trans (hI.kn 4 _ rfl (hpx 4 rfl))
    exact RU.ob_op rfl (RU.wanted_none rfl) (wp_store_mid 22 (.tmp 14) (.tmp 54) rfl b 0 (bv D2).toArray qp qv (by rw [List.size_toArray,(show (bv D2).length=(bv z32).length by rw [ae,ae,HD2.out.len,cr.len])];exact hth) (by rw [List.size_toArray];exact aD HD2.out) (ar _) ⟨_,rfl,by simp only [YN];exact hI.store (5,6,bv D2,bv z32) (by simp) d9 hV _ (by simp) (by simp) rfl (show (bv D2).length=(bv z32).length by rw [ae,ae,HD2.out.len,cr.len]) (by simp)⟩)
  intro W11 dW11 VW11 hal hI
  have BW11:Hid (Below W10.heap.size W10 W11):=hI.be
  have hs0:VW11 0 = .agg (bv C).toArray:=hI.kn 0 _ rfl (hal 0 (by decide))
  have hs1:VW11 1 = .agg (bv X).toArray:=hI.kn 1 _ rfl (hal 1 (by decide))
  have hs2:VW11 2 = .agg (bv S).toArray:=hI.kn 2 _ rfl (hal 2 (by decide))
  have hs3:VW11 3 = .agg (bv K).toArray:=hI.kn 3 _ rfl (hal 3 (by decide))
  have hs4:VW11 4 = .agg (bv D2).toArray:=hI.kn 4 _ rfl (hal 4 (by decide))
  obtain ⟨b5,hs5,hb5,hl5,-,hr5⟩:=hI.pt (5,6,bv D2,bv z32) (by simp) (hal 5 (by decide))
  have hs5:VW11 5 = .pointer (some ⟨b5,0,none⟩):=hs5
  have R5W11:Hid (W11.rangeAt b5 0 (bv D2)):=by have h9:dW11 6=true:=hal 6 (by decide);simp only [h9,if_true] at hr5;exact hr5
  have L5W11:Hid (b5<W11.heap.size):=hl5
  have G5W11:Hid (W10.heap.size≤b5):=hb5
  simp only [RU.lay,Act.put,hs0,hs1,hs2,hs3,hs4,hs5]
  simp only [qA,qB,qC]
  clear hI hal hs0 hs1 hs2 hs3 hs4 hs5 hb5 hl5 hr5
  have RG11:Hid (W11.rangeAt (e11) 0 (bv G)):=aa RG10.out BW11.out LG10.out
  have LG11:Hid (e11<W11.heap.size):=YI LG10.out BW11.out.size
  have RC11:Hid (W11.rangeAt (b9) 0 (bv C)):=aa RC10.out BW11.out LC10.out
  have LC11:Hid (b9<W11.heap.size):=YI LC10.out BW11.out.size
  clear RG10 LG10 RC10 LC10
  have RT11:Hid (W11.rangeAt b5 0 (bv D2)):=R5W11
  have LT11:Hid (b5<W11.heap.size):=L5W11
  have BU11:Hid (Below U.heap.size U W11):=Below.tr' BU10.out BW11.out
  have TH11:Hid (W11.there (D+1) 0 80):=an THR.out BU11.out LTR.out
  have LTH:Hid (D+1<W11.heap.size):=YI LTR.out BU11.out.size
  clear BW11 BU10 HG10 R5W11 L5W11 G5W11
  go_upto_region 10 with (fail)
  refine RG.wp_rgn' (GL W11 (MU e11 b9 b5 O) (phQ [G,C,D2] O) [] 7 (D+1) (0) (bv O)) (by kernel_rfl) (by kernel_rfl) GL.start ?_ ?_
  ·refine ⟨?_,?_,?_,?_,?_,?_,?_,?_,?_,trivial⟩
   ·refine GL.ob rfl ?_
    intro a W d V hI hd hpx hbk hf hp
    have hO':Below W11.heap.size W11 W:=hI.be
    refine RU.ob_val (v := .slice (some ⟨e11,0,none⟩) 32 32) rfl (RU.wanted_none rfl) (fun ev he hc => ?_) ⟨_,rfl,hI.step (fp [G,C,D2] O) (Below.refl _ _) 0 _ (by simp) (fun u hu=>by first | (cases hu;rfl) | cases hu) (trivial)⟩
    have q11:ev (.tmp 11) = .pointer (some ⟨e11,0,none⟩):=(he (.tmp 11)).trans (hf 11 rfl)
    simp only [qF,qD,qE,execOp,YO,YP];rw [q11]
    first | (go_simp;done) | (go_simp;rfl) | rfl
   ·refine GL.ob rfl ?_
    intro a W d V hI hd hpx hbk hf hp
    have hO':Below W11.heap.size W11 W:=hI.be
    refine RU.ob_val (v := .slice (some ⟨b9,0,none⟩) 16 16) rfl (RU.wanted_none rfl) (fun ev he hc => ?_) ⟨_,rfl,hI.step (fp [G,C,D2] O) (Below.refl _ _) 1 _ (by simp) (fun u hu=>by first | (cases hu;rfl) | cases hu) (trivial)⟩
    have q13:ev (.tmp 13) = .pointer (some ⟨b9,0,none⟩):=(he (.tmp 13)).trans (hf 13 rfl)
    simp only [qF,qD,qE,execOp,YO,YP];rw [q13]
    first | (go_simp;done) | (go_simp;rfl) | rfl
   ·refine GL.ob rfl ?_
    intro a W d V hI hd hpx hbk hf hp
    have hO':Below W11.heap.size W11 W:=hI.be
    refine RU.ob_val (v := .slice (some ⟨b5,0,none⟩) 32 32) rfl (RU.wanted_none rfl) (fun ev he hc => ?_) ⟨_,rfl,hI.step (fp [G,C,D2] O) (Below.refl _ _) 2 _ (by simp) (fun u hu=>by first | (cases hu;rfl) | cases hu) (trivial)⟩
    have q14:ev (.tmp 14) = .pointer (some ⟨b5,0,none⟩):=(he (.tmp 14)).trans (hf 14 rfl)
    simp only [qF,qD,qE,execOp,YO,YP];rw [q14]
    first | (go_simp;done) | (go_simp;rfl) | rfl
   ·refine GL.ob rfl ?_
    intro a W d V hI hd hpx hbk hf hp
    have hO':Below W11.heap.size W11 W:=hI.be
    have e55:a.eval (.tmp 55) = .slice (some ⟨e11,0,none⟩) 32 32:=(hp 0 55 rfl).trans (hI.kn 0 _ rfl (hpx 0 rfl))
    have e56:a.eval (.tmp 56) = .slice (some ⟨b9,0,none⟩) 16 16:=(hp 1 56 rfl).trans (hI.kn 1 _ rfl (hpx 1 rfl))
    have e57:a.eval (.tmp 57) = .slice (some ⟨b5,0,none⟩) 32 32:=(hp 2 57 rfl).trans (hI.kn 2 _ rfl (hpx 2 rfl))
    have s0:Sl W (.slice (some ⟨e11,0,none⟩) 32 32) G:=bo HG.out (aa RG11.out hO' LG11.out) (YI LG11.out hO'.size)
    have s1:Sl W (.slice (some ⟨b9,0,none⟩) 16 16) C:=xq HC.out (aa RC11.out hO' LC11.out) (YI LC11.out hO'.size)
    have s2:Sl W (.slice (some ⟨b5,0,none⟩) 32 32) D2:=bo HD2.out (aa RT11.out hO' LT11.out) (YI LT11.out hO'.size)
    have hb:Below W.heap.size W (W.alloc (.cells ([.slice (some ⟨e11,0,none⟩) 32 32,.slice (some ⟨b9,0,none⟩) 16 16,.slice (some ⟨b5,0,none⟩) 32 32]:List Value).toArray 23)):=(Below.refl _ W).alloc (Nat.le_refl _) _
    have hll:LL (W.alloc (.cells ([.slice (some ⟨e11,0,none⟩) 32 32,.slice (some ⟨b9,0,none⟩) 16 16,.slice (some ⟨b5,0,none⟩) 32 32]:List Value).toArray 23)) (.slice (some ⟨W.heap.size,0,none⟩) 3 3) [G,C,D2]:=lW _ _ _ 3 rfl rfl (fun i u hu=>by
     match i,hu with
     | 0,hu=>cases hu;exact s0
     | 1,hu=>cases hu;exact s1
     | 2,hu=>cases hu;exact s2
     | n+3,hu=>simp at hu)
    refine RU.ob_run (v := .slice (some ⟨W.heap.size,0,none⟩) 3 3) (w':=W.alloc (.cells ([.slice (some ⟨e11,0,none⟩) 32 32,.slice (some ⟨b9,0,none⟩) 16 16,.slice (some ⟨b5,0,none⟩) 32 32]:List Value).toArray 23)) rfl (RU.wanted_none rfl) (fun ev he hc => ?_) ⟨_,rfl,hI.step (fp [G,C,D2] O) hb 3 _ (by simp) (fun u hu=>by cases hu) hll⟩
    have h55:=(he (.tmp 55)).trans e55
    have h56:=(he (.tmp 56)).trans e56
    have h57:=(he (.tmp 57)).trans e57
    simp only [qF,qD,qE,execOp]
    simp only [List.map_toArray,List.map_cons,List.map_nil,h55,h56,h57]
    first | (go_simp;done) | (go_simp;rfl)
   ·refine GL.ob rfl ?_
    intro a W d V hI hd hpx hbk hf hp
    have hO':Below W11.heap.size W11 W:=hI.be
    have e58:a.eval (.tmp 58)=V 3:=hp 3 58 rfl
    have hno : ∀ x ∈ ([]:List Al),d x.2.1=false:=by simp
    refine RU.ob_call (g:=23) (args := #[V 3]) rfl (RU.wanted_none rfl) (fun ev he hc => ?_) ((fg [G,C,D2] O HOE.out (V 3) W (hI.pr 3 (hpx 3 rfl) hno) (by rw [HOL.out];decide) (by show 3≤1000;omega)).mono ?_)
    ·have h58:=(he (.tmp 58)).trans e58
     have hfn:=he (.func 23)
     simp only [qF,qD,qE,execOp,YO,YP]
     simp only [resolve,invoke,Sem.run_bind,Sem.run_pure,Result.andThen_ok,List.map_toArray,List.map_cons,List.map_nil,h58,hfn,Act.eval,hc]
     rfl
    ·rintro e' W2 ⟨v9,rfl,g1,hb2⟩
     exact ⟨_,rfl,⟨_,rfl,hI.step (fp [G,C,D2] O) hb2 4 _ (by simp) (fun u hu=>by first | (cases hu;rfl) | cases hu) (g1.at80 HOL.out)⟩⟩
   ·refine GL.ob rfl ?_
    intro a W d V hI hd hpx hbk hf hp
    have hO':Below W11.heap.size W11 W:=hI.be
    obtain ⟨g,cap,hv,hc,hl,hr⟩:=hI.pr 4 (hpx 4 rfl) (by simp)
    have e59:a.eval (.tmp 59) = .slice (some ⟨g,0,none⟩) 80 cap:=(hp 4 59 rfl).trans hv
    refine RU.ob_val (v := .pointer (some ⟨g,0,none⟩)) rfl (RU.wanted_none rfl) (fun ev he hc => ?_) ⟨_,rfl,hI.step (fp [G,C,D2] O) (Below.refl _ _) 5 _ (by simp) (fun u hu=>by cases hu) ⟨g,rfl,hl,hr⟩⟩
    have q59:=(he (.tmp 59)).trans e59
    simp only [qF,qD,qE,execOp,YO,YP];rw [q59]
    first | (go_simp;done) | (go_simp;rfl) | rfl
   ·refine GL.ob rfl ?_
    intro a W d V hI hd hpx hbk hf hp
    have hO':Below W11.heap.size W11 W:=hI.be
    obtain ⟨g,hv,hl,hr⟩:=hI.pr 5 (hpx 5 rfl) (by simp)
    have e60:a.eval (.tmp 60) = .pointer (some ⟨g,0,none⟩):=(hp 5 60 rfl).trans hv
    exact RU.ob_op rfl (RU.wanted_none rfl) (wp_load_mid 25 (.tmp 60) rfl g 0 e60 (bv O) _ hr Tryz.underlying25 rfl (iJ HOL.out ct) ⟨_,rfl,hI.step (fp [G,C,D2] O) (Below.refl _ _) 6 _ (by simp) (fun u hu=>by first | (cases hu;rfl) | cases hu) trivial⟩)
   ·refine GL.obs (fun a W d V hI hd hpx hbk hf hp => ?_)
    have hO':Below W11.heap.size W11 W:=hI.be
    have qp:a.eval (.tmp 4) = .pointer (some ⟨D+1,0,none⟩):=hf 4 rfl
    have qv:a.eval (.tmp 61) = .agg (bv O).toArray:=(hp 6 61 rfl).trans (hI.kn 6 _ rfl (hpx 6 rfl))
    exact RU.ob_op rfl (RU.wanted_none rfl) (wp_store_mid 25 (.tmp 4) (.tmp 61) rfl (D+1) (0) (bv O).toArray qp qv (aK HOL.out (an TH11.out hO' LTH.out)) (by rw [List.size_toArray];exact aC HOL.out ct) (ar _) ⟨_,rfl,by simp only [YN];exact GL.stored hI rfl _⟩)
   ·refine GL.oba rfl (fun a W d V hK hd hpx hf hp hG => ?_)
    refine RU.ob_val (v := .int .i64 0) rfl (RU.wanted_none rfl) (fun ev he hc => ?_) ⟨_,rfl,hG _ (fun u hu=>by first | (cases hu;rfl) | cases hu)⟩
    simp only [qF,qD,qE,execOp,YO,YP]
    try simp only [hc]
    first | (go_simp;done) | (go_simp;rfl) | rfl
  intro W12x dW12 VW12 hal hG
  obtain ⟨hK,W12,W12y,hyW12⟩:=hG.fin (hal 7 (by decide))
  subst hyW12
  have BW12:Hid (Below W11.heap.size W11 W12):=W12y
  have hs0:VW12 0 = .slice (some ⟨e11,0,none⟩) 32 32:=hK 0 _ rfl (hal 0 (by decide))
  have hs1:VW12 1 = .slice (some ⟨b9,0,none⟩) 16 16:=hK 1 _ rfl (hal 1 (by decide))
  have hs2:VW12 2 = .slice (some ⟨b5,0,none⟩) 32 32:=hK 2 _ rfl (hal 2 (by decide))
  obtain ⟨u3,hs3⟩ : ∃ u,VW12 3=u:=⟨_,rfl⟩
  obtain ⟨u4,hs4⟩ : ∃ u,VW12 4=u:=⟨_,rfl⟩
  obtain ⟨u5,hs5⟩ : ∃ u,VW12 5=u:=⟨_,rfl⟩
  have hs6:VW12 6 = .agg (bv O).toArray:=hK 6 _ rfl (hal 6 (by decide))
  have hs8:VW12 8 = .int .i64 0:=hK 8 _ rfl (hal 8 (by decide))
  simp only [RU.lay,Act.put,hs0,hs1,hs2,hs3,hs4,hs5,hs6,hs8]
  simp only [qA,qB,qC]
  clear hG hK hal W12y hs0 hs1 hs2 hs3 hs4 hs5 hs6 hs8
  have BU12:Hid (Below U.heap.size U W12):=Below.tr' BU11.out BW12.out
  have THd:Hid _:=an THR.out BU12.out LTR.out
  go_wp2_with fail
  have qq:(W12.setCells (D+1) 0 (bv O)).rangeAt (D+1) 0 (bv O):=World.rangeAt_setCells_same _ _ _ _ (by rw [ae,HOL.out];exact THd.out)
  have hbl:Below w.heap.size w (W12.setCells (D+1) 0 (bv O)):=af (by rw [HD.out];omega) _ _ (BU.out.trans (BU12.out.mono BU.out.size))
  try simp only [Exit.inBlock,Exit.then]
  refine bodyPost_ret (v := .tuple #[.agg (bv O).toArray,.int .i64 0]) ?_ rfl ⟨by rw [HO2.out],hbl⟩
  exact au Tryz.results9 _ _ (D+1) 0 (bv O) _ _ rfl rfl qq Tryz.underlying25 rfl (by rw [ae,HOL.out];exact ct)
end Go.Proofs.YtajehiidpecknaaGreatDoor.Wi
