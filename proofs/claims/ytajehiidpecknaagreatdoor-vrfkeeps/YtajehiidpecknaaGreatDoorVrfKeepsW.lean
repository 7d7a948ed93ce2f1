/- VrfKeeps, walked. -/
import Derived.Test.YtajehiidpecknaaGreatDoorVrL
import Derived.Test.YtajehiidpecknaaGreatDoorVrP
import Derived.Test.YtajehiidpecknaaGreatDoorVrR
set_option linter.all false
namespace Go.Proofs.YtajehiidpecknaaGreatDoor.Wi
open Go Go.RowKit
set_option maxRecDepth 100000
theorem Gb (w:World) (y z:Int) (t:TypeId):Sl (w.alloc (.cells #[.int .u8 y,.int .u8 z] t)) (.slice (some ⟨w.heap.size,0,none⟩) 2 2) [y,z]:=by
 refine ⟨_,2,rfl,Nat.le_refl _,.inr ⟨_,0,rfl,by simp,fun i hi => ?_⟩⟩
 have:(w.alloc (.cells #[.int .u8 y,.int .u8 z] t)).heap[w.heap.size]? = some (.cells #[.int .u8 y,.int .u8 z] t):=by show (w.heap.push _)[w.heap.size]? = _;simp
 have h2:i=0∨i=1:=by simp at hi;omega
 rcases h2 with rfl | rfl <;> (unfold World.cell?;rw [this];rfl)
def K0 (D e7 g5 n0 c5:Nat) (s Y X Q:List Int) (F:Int):Nat→Option Value
 | 0=>some (.agg (bv s).toArray)
 | 1=>some (.agg (bv Y).toArray)
 | 2=>some (.slice (some ⟨g5,0,none⟩) n0 c5)
 | 3=>some (.agg (bv X).toArray)
 | 4=>some (.tuple #[.agg (bv Q).toArray,.int .i64 F])
 | _=>none
set_option maxHeartbeats 8000000 in
theorem ym (s p:List Int) (hs:L32 s) (hp:Byt p) (hl:p.length≤140737488352000) (v:Value) (w:World) (hv:Sl w v p) (hg:Glo Ve.MA w) :
  Calls Tryz.prog 7 #[.agg (bv s).toArray,v] w fun e w'=>e = .returned (.bool true)∧Below w.heap.size w w':=by
 have HA:Hid (L32 s):=hs
 have HVW:Hid (Sl w v p):=hv
 have HPL:Hid (p.length≤140737488352000):=hl
 obtain ⟨a0,c0,hv0,-,-⟩:=id HVW.out
 obtain ⟨n0,hn0⟩ : ∃ n,p.length=n:=⟨_,rfl⟩
 rw [hn0] at hv0
 subst hv0
 have HN:Hid (p.length=n0):=hn0
 obtain ⟨X,hX⟩ : ∃ z,pvV s p=z:=⟨_,rfl⟩
 obtain ⟨E,hE⟩ : ∃ z,p9 (pvI s p)=z:=⟨_,rfl⟩
 obtain ⟨Y,hY⟩ : ∃ z,Bs (Ve.sk s)=z:=⟨_,rfl⟩
 have HYL:Hid (L32 Y):=by rw [←hY];exact L32.bs _
 have HXL:Hid (X.length=80):=by rw [←hX];exact Fp _ _
 have HXB:Hid (Byt X):=by rw [←hX];exact Fb _ _
 obtain ⟨Q,hQ⟩ : ∃ z,vyV Y p X=z:=⟨_,rfl⟩
 obtain ⟨F,hF⟩ : ∃ z,vyE Y p X=z:=⟨_,rfl⟩
 have HAW:Hid (∀ W,Glo Ve.MA W→Calls Tryz.prog 8 #[] W fun e w'=>e = .returned (.bool true)∧Below W.heap.size W w'):=yw
 have HPV:Hid (∀ u W,Sl W u p→Glo Ve.MA W→Calls Tryz.prog 9 #[.agg (bv s).toArray,u] W fun e w'=>e = .returned (.tuple #[.agg (bv X).toArray,.int .i64 E])∧Below W.heap.size W w'):=fun u W h1 h2=>by rw [←hX,←hE];exact oS s p hs hp (by omega) _ W h1 h2
 have HPB:Hid (∀ W,Calls Tryz.prog 15 #[.agg (bv s).toArray] W fun e w'=>e = .returned (.agg (bv Y).toArray)∧Below W.heap.size W w'):=fun W=>by rw [←hY];exact Ao s hs W
 have HVA:Hid (∀ u W,Sl W u p→Glo Ve.MA W→Calls Tryz.prog 13 #[.agg (bv Y).toArray,u,.agg (bv X).toArray] W fun e w'=>e = .returned (.tuple #[.agg (bv Q).toArray,.int .i64 F])∧Below W.heap.size W w'):=fun u W h1 h2=>by rw [←hQ,←hF];exact uL Y p X HYL.out hp (by omega) HXL.out HXB.out _ W h1 h2
 have hz8:=eW
 obtain ⟨Z8,hZ8⟩ : ∃ Z,(bv (List.replicate 80 0)).toArray=Z:=⟨_,rfl⟩
 have hZs8:Z8.size=80:=by rw [←hZ8];simp [bv]
 have HZ8:Hid (Z8.size=80):=hZs8
 rw [hZ8] at hz8
 clear hZ8 hZs8
 obtain ⟨A0,hA0⟩ : ∃ A,(bv s).toArray=A:=⟨_,rfl⟩
 rw [hA0]
 obtain ⟨U,hU⟩ : ∃ U,(w.alloc (.cells A0 22))=U:=⟨_,rfl⟩
 have sU:U.heap.size=w.heap.size+1:=by rw [←hU];simp
 have bU:Below w.heap.size w U:=by rw [←hU];exact ((Below.refl _ w).alloc (by first | exact Nat.le_refl _ | (simp only [World.size_alloc];omega)) _)
 have r0:U.rangeAt (w.heap.size) 0 (bv s):=fun j v hj=>by rw [Nat.zero_add,cell_of_row U _ j _ _ _ (show U.heap[w.heap.size]? = some (.cells A0 22 (0,0)) by rw [←hU];exact bN [.cells A0 22 (0,0)] w.heap 0 _ rfl),←hA0,List.getElem?_toArray];exact hj
 have BU:Hid (Below w.heap.size w U):=bU
 obtain ⟨D,hD⟩ : ∃ D,w.heap.size=D:=⟨_,rfl⟩
 have HD:Hid (w.heap.size=D):=hD
 rw [hD] at sU r0
 have RA:Hid (U.rangeAt (D) 0 (bv s)):=r0
 have LA:Hid (D<U.heap.size):=by show _<_;omega
 clear sU bU r0 hA0
 have HGU:Hid (Glo Ve.MA U):=hg.below BU.out
 clear hg hs hp hl hv hX hE hY hQ hF hn0
 go_enter Tryz.func7,Tryz.ntmps7
 go_upto_region 1 with (fail)
 try rw [hU]
 try rw [hD]
 clear hU hD
 go_upto_region 3 with (first
  | (go_at_call 8;refine (HAW.out U HGU.out).mono ?_;rintro e W0 ⟨rfl,g1⟩;have BW0:Hid (Below U.heap.size U W0):=g1;clear g1))
 have G0:Hid (Glo Ve.MA W0):=aB HGU.out BW0.out
 have RA0:Hid (W0.rangeAt (D) 0 (bv s)):=aa RA.out BW0.out LA.out
 have LA0:Hid (D<W0.heap.size):=Nat.lt_of_lt_of_le LA.out BW0.out.size
 clear RA LA
 have V0:Hid (Sl W0 (.slice a0 n0 c0) p):=HVW.out.below (Below.tr' BU.out BW0.out) (Nat.le_refl _)
 go_upto_region 4 with (first
  | (at_builtin;refine vb (B0:=W0.heap.size) rfl (.tmp 11) (.tmp 12) rfl (by simp) _ [] rfl (Bz W0) _ rfl p (V0.out.below ((Below.refl _ W0).alloc (Nat.le_refl _) _) (Nat.le_refl _)) (by have:=HPL.out;simp;omega) ?_;intro v9 W1 g1 g2 g3 g4;rw [List.nil_append] at g1;have O1:Hid (Ow W0.heap.size W1 v9 p):=g1;have B1:Hid (Below W0.heap.size W0 W1):=((Below.refl _ W0).alloc (Nat.le_refl _) _).trans g3;clear g1 g2 g3 g4)
  | (at_builtin;refine vb (B0:=W0.heap.size) rfl (.tmp 13) (.tmp 14) rfl (by have:=B1.out.size;simp only [World.size_alloc];omega) _ p rfl (O1.out.below ((Below.refl _ W1).alloc (Nat.le_refl _) _)) _ rfl [77,78] (Gb W1 77 78 _) (by have:=HPL.out;simp;omega) ?_;intro v5 W2 g1 g2 g3 g4;have O2:Hid (Ow W0.heap.size W2 v5 (p ++ [77,78])):=g1;have B2:Hid (Below W0.heap.size W0 W2):=B1.out.trans (((Below.refl _ W1).alloc B1.out.size _).trans g3);clear g1 g2 g3 g4))
 have hL:(p ++ [77,78]).length=n0+2:=by rw [List.length_append,HN.out];rfl
 obtain ⟨ad,c5,e5,hc5,hsl⟩:=O2.out.sl
 subst e5
 obtain ⟨g5,rfl⟩ : ∃ g,ad=some ⟨g,0,none⟩:=by
  rcases O2.out.2 with ⟨e,h0⟩ | ⟨g,c',cur,e,_⟩
  ·omega
  ·simp only [Value.slice.injEq] at e;exact ⟨g,e.1⟩
 have LG:Hid (g5<W2.heap.size):=O2.out.lt g5 rfl
 have CC:Hid (∀ j,j<n0+2→W2.cell? ⟨g5,j,none⟩=some (.int .u8 (gi (p ++ [77,78]) j))):=fun j hj=>(O2.out.cell (by rw [hL];exact hj)).1
 have SI:Hid (Sl W2 (.slice (some ⟨g5,0,none⟩) n0 c5) p):=by
  refine ⟨_,c5,by rw [HN.out],by rw [hL] at hc5;have:=HN.out;omega,.inr ⟨g5,0,rfl,LG.out,fun i hi => ?_⟩⟩
  rw [Nat.zero_add,CC.out i (by have:=HN.out;omega)]
  unfold gi
  rw [List.getD_eq_getElem?_getD,List.getD_eq_getElem?_getD,List.getElem?_append_left hi]
 have C77:Hid (W2.cell? ⟨g5,n0,none⟩=some (.int .u8 77)):=by
  show _=_
  rw [CC.out n0 (by omega)]
  unfold gi
  rw [List.getD_eq_getElem?_getD,List.getElem?_append_right (by rw [HN.out];exact Nat.le_refl _),HN.out,Nat.sub_self];rfl
 have C78:Hid (W2.cell? ⟨g5,n0+1,none⟩=some (.int .u8 78)):=by
  show _=_
  rw [CC.out (n0+1) (by omega)]
  unfold gi
  rw [List.getD_eq_getElem?_getD,List.getElem?_append_right (by rw [HN.out];omega),HN.out,Nat.add_sub_cancel_left];rfl
 rw [hL] at hc5 ⊢
 have HN0:Hid (n0≤140737488352000):=by show _≤_;rw [←HN.out];exact HPL.out
 clear hsl
 have RA2:Hid (W2.rangeAt (D) 0 (bv s)):=aa RA0.out B2.out LA0.out
 have LA2:Hid (D<W2.heap.size):=Nat.lt_of_lt_of_le LA0.out B2.out.size
 clear RA0 LA0
 have G2:Hid (Glo Ve.MA W2):=aB G0.out B2.out
 have V2:Hid (Sl W2 (.slice a0 n0 c0) p):=V0.out.below B2.out (Nat.le_refl _)
 have hn9:=HN0.out
 go_upto_region 5 with fail
 go_upto_region 6 with (first
  | (refine wpList_load_mid rfl 22 (.tmp 2) rfl (D) 0 rfl (bv s) _ RA2.out Tryz.underlying22 rfl (by rw [ae,HA.out.len];exact a8) ?_)
  | (go_at_call 9;refine (HPV.out _ W2 SI.out G2.out).mono ?_;rintro e W3 ⟨rfl,g1⟩;have BW3:Hid (Below W2.heap.size W2 W3):=g1;clear g1)
  | (refine wpList_store_mid rfl 25 (.tmp 7) (.tmp 24) rfl W3.heap.size 0 (bv X).toArray rfl rfl (eB W3 (HXL.out) HZ8.out) (aP (HXL.out) ee) (aJ _) ?_;simp only [List.toList_toArray]))
 obtain ⟨e7,he7⟩ : ∃ n,W3.heap.size=n:=⟨_,rfl⟩
 obtain ⟨W6,hW6⟩ : ∃ W,(W3.alloc (.cells Z8 25)).setCells W3.heap.size 0 (bv X)=W:=⟨_,rfl⟩
 obtain ⟨l1,l2,l3⟩:=bW (by rw [ae,HXL.out,HZ8.out]) (by rw [ae,HXL.out];omega) hW6
 have BW6:Hid (Below W3.heap.size W3 W6):=l2
 have RX6:Hid (W6.rangeAt e7 0 (bv X)):=by rw [←he7];exact l1
 have LX6:Hid (e7<W6.heap.size):=by rw [←he7];exact l3
 try rw [hW6]
 try rw [he7]
 clear l1 l2 l3 hW6 he7
 have B6:Hid (Below W2.heap.size W2 W6):=Below.tr' BW3.out BW6.out
 have RA6:Hid (W6.rangeAt (D) 0 (bv s)):=aa RA2.out B6.out LA2.out
 have LA6:Hid (D<W6.heap.size):=Nat.lt_of_lt_of_le LA2.out B6.out.size
 clear RA2 LA2
 have HG6:Hid (Glo Ve.MA W6):=aB G2.out B6.out
 have HS6:Hid (Sl W6 (.slice (some ⟨g5,0,none⟩) n0 c5) p):=SI.out.below B6.out (Nat.le_refl _)
 have HVF:Hid (∀ W,Sl W (.slice (some ⟨g5,0,none⟩) n0 c5) p→Glo Ve.MA W→Calls Tryz.prog 13 #[.agg (bv Y).toArray,.slice (some ⟨g5,0,none⟩) n0 c5,.agg (bv X).toArray] W fun e w'=>e = .returned (.tuple #[.agg (bv Q).toArray,.int .i64 F])∧Below W.heap.size W w'):=HVA.out _
 refine RG.wp_rgn' (GI W6 (K0 D e7 g5 n0 c5 s Y X Q F) (fun _ _ _=>True) []) (by kernel_rfl) (by kernel_rfl) GI.start ?_ ?_
 ·refine ⟨?_,?_,?_,?_,?_,trivial⟩
  ·intro a W d V hI hd hpx hbk hf hp
   have hO':Below W6.heap.size W6 W:=hI.be
   have q2:a.eval (.tmp 2) = .pointer (some ⟨D,0,none⟩):=hf 2 rfl
   exact RU.ob_op rfl (RU.wanted_none rfl) (wp_load_mid 22 (.tmp 2) rfl (D) (0) q2 (bv s) _ (aa RA6.out hO' LA6.out) Tryz.underlying22 rfl (aM HA.out) ⟨_,rfl,hI.step (fun _ _ _ _ _ _=>trivial) (Below.refl _ _) 0 _ (by simp) (fun u hu=>by first | (cases hu;rfl) | cases hu) (trivial)⟩)
  ·intro a W d V hI hd hpx hbk hf hp
   have hO':Below W6.heap.size W6 W:=hI.be
   have e26:a.eval (.tmp 26) = .agg (bv s).toArray:=(hp 0 26 rfl).trans (hI.kn 0 _ rfl (hpx 0 rfl))
   have hno : ∀ x ∈ ([]:List Al),d x.2.1=false:=by simp
   refine RU.ob_call (g:=15) (args := #[.agg (bv s).toArray]) rfl (RU.wanted_none rfl) (fun ev he hc => ?_) ((HPB.out W).mono ?_)
   ·have h26:=(he (.tmp 26)).trans e26
    have hfn:=he (.func 15)
    simp only [qF,qD,qE,execOp,Option.map_some,Option.map_none]
    simp only [resolve,invoke,Sem.run_bind,Sem.run_pure,Result.andThen_ok,List.map_toArray,List.map_cons,List.map_nil,h26,hfn,Act.eval,hc]
    rfl
   ·rintro e' W2 ⟨rfl,hb2⟩
    exact ⟨_,rfl,⟨_,rfl,hI.step (fun _ _ _ _ _ _=>trivial) hb2 1 _ (by simp) (fun u hu=>by first | (cases hu;rfl) | cases hu) (trivial)⟩⟩
  ·intro a W d V hI hd hpx hbk hf hp
   have hO':Below W6.heap.size W6 W:=hI.be
   refine RU.ob_val (v := .slice (some ⟨g5,0,none⟩) n0 c5) rfl (RU.wanted_none rfl) (fun ev he hc => ?_) ⟨_,rfl,hI.step (fun _ _ _ _ _ _=>trivial) (Below.refl _ _) 2 _ (by simp) (fun u hu=>by first | (cases hu;rfl) | cases hu) (trivial)⟩
   have q6:ev (.tmp 6) = .slice (some ⟨g5,0,none⟩) n0 c5:=(he (.tmp 6)).trans (hf 6 rfl)
   simp only [qF,qD,qE,execOp,Option.map_some,Option.map_none];rw [q6]
   first | (go_simp;done) | (go_simp;rfl) | rfl
  ·intro a W d V hI hd hpx hbk hf hp
   have hO':Below W6.heap.size W6 W:=hI.be
   have q7:a.eval (.tmp 7) = .pointer (some ⟨e7,0,none⟩):=hf 7 rfl
   exact RU.ob_op rfl (RU.wanted_none rfl) (wp_load_mid 25 (.tmp 7) rfl (e7) (0) q7 (bv X) _ (aa RX6.out hO' LX6.out) Tryz.underlying25 rfl (fZ HXL.out ee) ⟨_,rfl,hI.step (fun _ _ _ _ _ _=>trivial) (Below.refl _ _) 3 _ (by simp) (fun u hu=>by first | (cases hu;rfl) | cases hu) (trivial)⟩)
  ·intro a W d V hI hd hpx hbk hf hp
   have hO':Below W6.heap.size W6 W:=hI.be
   have e27:a.eval (.tmp 27) = .agg (bv Y).toArray:=(hp 1 27 rfl).trans (hI.kn 1 _ rfl (hpx 1 rfl))
   have e28:a.eval (.tmp 28) = .slice (some ⟨g5,0,none⟩) n0 c5:=(hp 2 28 rfl).trans (hI.kn 2 _ rfl (hpx 2 rfl))
   have e29:a.eval (.tmp 29) = .agg (bv X).toArray:=(hp 3 29 rfl).trans (hI.kn 3 _ rfl (hpx 3 rfl))
   have hno : ∀ x ∈ ([]:List Al),d x.2.1=false:=by simp
   refine RU.ob_call (g:=13) (args := #[.agg (bv Y).toArray,.slice (some ⟨g5,0,none⟩) n0 c5,.agg (bv X).toArray]) rfl (RU.wanted_none rfl) (fun ev he hc => ?_) ((HVF.out W (HS6.out.below hO' (Nat.le_refl _)) (aB HG6.out hO')).mono ?_)
   ·have h27:=(he (.tmp 27)).trans e27
    have h28:=(he (.tmp 28)).trans e28
    have h29:=(he (.tmp 29)).trans e29
    have hfn:=he (.func 13)
    simp only [qF,qD,qE,execOp,Option.map_some,Option.map_none]
    simp only [resolve,invoke,Sem.run_bind,Sem.run_pure,Result.andThen_ok,List.map_toArray,List.map_cons,List.map_nil,h27,h28,h29,hfn,Act.eval,hc]
    rfl
   ·rintro e' W2 ⟨rfl,hb2⟩
    exact ⟨_,rfl,⟨_,rfl,hI.step (fun _ _ _ _ _ _=>trivial) hb2 4 _ (by simp) (fun u hu=>by first | (cases hu;rfl) | cases hu) (trivial)⟩⟩
 intro W7 dW7 VW7 hal hI
 have BW7:Hid (Below W6.heap.size W6 W7):=hI.be
 have hs0:VW7 0 = .agg (bv s).toArray:=hI.kn 0 _ rfl (hal 0 (by decide))
 have hs1:VW7 1 = .agg (bv Y).toArray:=hI.kn 1 _ rfl (hal 1 (by decide))
 have hs2:VW7 2 = .slice (some ⟨g5,0,none⟩) n0 c5:=hI.kn 2 _ rfl (hal 2 (by decide))
 have hs3:VW7 3 = .agg (bv X).toArray:=hI.kn 3 _ rfl (hal 3 (by decide))
 have hs4:VW7 4 = .tuple #[.agg (bv Q).toArray,.int .i64 F]:=hI.kn 4 _ rfl (hal 4 (by decide))
 simp only [RU.lay,Act.put,hs0,hs1,hs2,hs3,hs4]
 simp only [qA,qB,qC]
 clear hI hal hs0 hs1 hs2 hs3 hs4
 have B8:Hid (Below W2.heap.size W2 W7):=Below.tr' B6.out BW7.out
 have SV8:Hid (Sl W7 (.slice a0 n0 c0) p):=V2.out.below B8.out (Nat.le_refl _)
 have SI8:Hid (Sl W7 (.slice (some ⟨g5,0,none⟩) n0 c5) p):=SI.out.below B8.out (Nat.le_refl _)
 have T1:=SV8.out.str
 have T2:=SI8.out.str
 have C77b:W7.cell? ⟨g5,n0,none⟩=some (.int .u8 77):=(B8.out.cell (p:=⟨g5,n0,none⟩) LG.out).trans C77.out
 have C78b:W7.cell? ⟨g5,n0+1,none⟩=some (.int .u8 78):=(B8.out.cell (p:=⟨g5,n0+1,none⟩) LG.out).trans C78.out
 have BF:Hid (Below w.heap.size w W7):=Below.tr' BU.out (Below.tr' BW0.out (Below.tr' B2.out B8.out))
 go_wp2_with fail
 go_ret
 exact ⟨rfl,BF.out⟩
end Go.Proofs.YtajehiidpecknaaGreatDoor.Wi
