import Derived.Test.YtajehiidpecknaaGreatDoorVrC
set_option linter.all false
namespace Go.Proofs.YtajehiidpecknaaGreatDoor.Wi
open Go Go.RowKit
set_option maxRecDepth 100000
theorem j7 {w:World} {b:Nat} {r t:List Int} (h1:w.rangeAt b 0 (bv r)) (h2:w.rangeAt b r.length (bv t)):w.rangeAt b 0 (bv (r ++ t)):=fun j v hj=>by
 rw [jm] at hj
 by_cases q:j<r.length
 ·rw [List.getElem?_append_left (by rw [ae];exact q)] at hj
  exact h1 j v hj
 ·rw [List.getElem?_append_right (by rw [ae];omega),ae] at hj
  have:=h2 (j - r.length) v hj
  rwa [show r.length+(j - r.length)=0+j by omega] at this
def chw (a b c d e:List Int):List Int:=chl a b c d e ++ List.replicate 16 0
def Qj (D:Nat) (G:List Int):Nat→Option Value
 | 1=>some (.slice (some ⟨D,0,none⟩) 32 32)
 | 2=>some (.slice (some ⟨D+1,0,none⟩) 32 32)
 | 3=>some (.slice (some ⟨D+2,0,none⟩) 32 32)
 | 4=>some (.slice (some ⟨D+3,0,none⟩) 32 32)
 | 5=>some (.slice (some ⟨D+4,0,none⟩) 32 32)
 | 9=>some (.agg (bv G).toArray)
 | _=>none
def P9 (E b10:Nat):Nat→Option Value
 | 0=>some (.slice (some ⟨E,0,none⟩) 16 32)
 | 1=>some (.slice (some ⟨b10,0,none⟩) 16 64)
 | _=>none
set_option maxHeartbeats 4000000 in
theorem iu (x1 x2 x3 x4 x5:List Int) (hx1:L32 x1) (hx2:L32 x2) (hx3:L32 x3) (hx4:L32 x4) (hx5:L32 x5) (w:World) :
  Calls Tryz.prog 32 #[.agg (bv x1).toArray,.agg (bv x2).toArray,.agg (bv x3).toArray,.agg (bv x4).toArray,.agg (bv x5).toArray] w fun e w'=>e = .returned (.agg (bv (chw x1 x2 x3 x4 x5)).toArray)∧Below w.heap.size w w':=by
 have HX1:Hid (L32 x1):=hx1
 have HX2:Hid (L32 x2):=hx2
 have HX3:Hid (L32 x3):=hx3
 have HX4:Hid (L32 x4):=hx4
 have HX5:Hid (L32 x5):=hx5
 obtain ⟨J,hJ⟩ : ∃ J,joA (chx x1 x2 x3 x4 x5)=J:=⟨_,rfl⟩
 obtain ⟨G,hG⟩ : ∃ G,h5 J=G:=⟨_,rfl⟩
 have HJ:Hid (joA (chx x1 x2 x3 x4 x5)=J):=hJ
 have HG:Hid (h5 J=G):=hG
 have HGL:Hid (G.length=64∧Byt G):=by rw [←hG];exact ⟨bq _,dS _⟩
 have HJB:Hid (Byt J):=by rw [←hJ];exact iG (fun m hm=>by
  simp only [chx,List.mem_cons,List.not_mem_nil,or_false] at hm
  rcases hm with rfl | rfl | rfl | rfl | rfl | rfl | rfl
  ·intro z hz;simp only [List.mem_cons,List.not_mem_nil,or_false] at hz;omega
  ·exact hx1.byt
  ·exact hx2.byt
  ·exact hx3.byt
  ·exact hx4.byt
  ·exact hx5.byt
  ·intro z hz;simp only [List.mem_cons,List.not_mem_nil,or_false] at hz;omega) _
 have HJL:Hid (J.length≤140737488354000):=by
  rw [←hJ];show ((((((([] ++ [3,2]) ++ x1) ++ x2) ++ x3) ++ x4) ++ x5) ++ [0]).length≤_
  simp only [List.length_append,hx1.len,hx2.len,hx3.len,hx4.len,hx5.len];decide
 have HN:Hid ((chx x1 x2 x3 x4 x5).length≤1000):=by show 7≤1000;omega
 have HE:Hid (G.take 16=chl x1 x2 x3 x4 x5):=by show _=_;rw [chl,hJ,hG]
 obtain ⟨A1,hA1⟩ : ∃ A,(bv x1).toArray=A:=⟨_,rfl⟩
 rw [hA1]
 obtain ⟨A2,hA2⟩ : ∃ A,(bv x2).toArray=A:=⟨_,rfl⟩
 rw [hA2]
 obtain ⟨A3,hA3⟩ : ∃ A,(bv x3).toArray=A:=⟨_,rfl⟩
 rw [hA3]
 obtain ⟨A4,hA4⟩ : ∃ A,(bv x4).toArray=A:=⟨_,rfl⟩
 rw [hA4]
 obtain ⟨A5,hA5⟩ : ∃ A,(bv x5).toArray=A:=⟨_,rfl⟩
 rw [hA5]
 have hz:=bG
 obtain ⟨Z,hZ⟩ : ∃ Z,(bv (List.replicate 32 0)).toArray=Z:=⟨_,rfl⟩
 have hZs:Z.size=32:=by rw [←hZ];simp [bv]
 rw [hZ] at hz
 have hz1:=hz w
 obtain ⟨U,hU⟩ : ∃ U,((((((w.alloc (.cells A1 22)).alloc (.cells A2 22)).alloc (.cells A3 22)).alloc (.cells A4 22)).alloc (.cells A5 22)).alloc (.cells Z 22))=U:=⟨_,rfl⟩
 have sU:U.heap.size=w.heap.size+6:=by rw [←hU];simp
 have bU:Below w.heap.size w U:=by rw [←hU];exact ((((((Below.refl _ w).alloc (Nat.le_refl _) _).alloc (by simp) _).alloc (by simp;omega) _).alloc (by simp;omega) _).alloc (by simp;omega) _).alloc (by simp;omega) _
 have g1:U.heap[w.heap.size]? = some (.cells A1 22 (0,0)):=by rw [←hU];exact aV [.cells A1 22 (0,0),.cells A2 22 (0,0),.cells A3 22 (0,0),.cells A4 22 (0,0),.cells A5 22 (0,0),.cells Z 22 (0,0)] w.heap 0 _ rfl
 have r1:U.rangeAt (w.heap.size) 0 (bv x1):=fun j v hj=>by rw [Nat.zero_add,cell_of_row U _ j _ _ _ g1,←hA1,List.getElem?_toArray];exact hj
 have g2:U.heap[w.heap.size+1]? = some (.cells A2 22 (0,0)):=by rw [←hU];exact aV [.cells A1 22 (0,0),.cells A2 22 (0,0),.cells A3 22 (0,0),.cells A4 22 (0,0),.cells A5 22 (0,0),.cells Z 22 (0,0)] w.heap 1 _ rfl
 have r2:U.rangeAt (w.heap.size+1) 0 (bv x2):=fun j v hj=>by rw [Nat.zero_add,cell_of_row U _ j _ _ _ g2,←hA2,List.getElem?_toArray];exact hj
 have g3:U.heap[w.heap.size+2]? = some (.cells A3 22 (0,0)):=by rw [←hU];exact aV [.cells A1 22 (0,0),.cells A2 22 (0,0),.cells A3 22 (0,0),.cells A4 22 (0,0),.cells A5 22 (0,0),.cells Z 22 (0,0)] w.heap 2 _ rfl
 have r3:U.rangeAt (w.heap.size+2) 0 (bv x3):=fun j v hj=>by rw [Nat.zero_add,cell_of_row U _ j _ _ _ g3,←hA3,List.getElem?_toArray];exact hj
 have g4:U.heap[w.heap.size+3]? = some (.cells A4 22 (0,0)):=by rw [←hU];exact aV [.cells A1 22 (0,0),.cells A2 22 (0,0),.cells A3 22 (0,0),.cells A4 22 (0,0),.cells A5 22 (0,0),.cells Z 22 (0,0)] w.heap 3 _ rfl
 have r4:U.rangeAt (w.heap.size+3) 0 (bv x4):=fun j v hj=>by rw [Nat.zero_add,cell_of_row U _ j _ _ _ g4,←hA4,List.getElem?_toArray];exact hj
 have g5:U.heap[w.heap.size+4]? = some (.cells A5 22 (0,0)):=by rw [←hU];exact aV [.cells A1 22 (0,0),.cells A2 22 (0,0),.cells A3 22 (0,0),.cells A4 22 (0,0),.cells A5 22 (0,0),.cells Z 22 (0,0)] w.heap 4 _ rfl
 have r5:U.rangeAt (w.heap.size+4) 0 (bv x5):=fun j v hj=>by rw [Nat.zero_add,cell_of_row U _ j _ _ _ g5,←hA5,List.getElem?_toArray];exact hj
 have g6:U.heap[w.heap.size+5]? = some (.cells Z 22 (0,0)):=by rw [←hU];exact aV [.cells A1 22 (0,0),.cells A2 22 (0,0),.cells A3 22 (0,0),.cells A4 22 (0,0),.cells A5 22 (0,0),.cells Z 22 (0,0)] w.heap 5 _ rfl
 have thr:U.there (w.heap.size+5) 0 32:=aO g6 0 32 (by omega)
 have BU:Hid (Below w.heap.size w U):=bU
 obtain ⟨D,hD⟩ : ∃ D,w.heap.size=D:=⟨_,rfl⟩
 have HD:Hid (w.heap.size=D):=hD
 rw [hD] at sU r1 r2 r3 r4 r5 thr
 have RX1:Hid (U.rangeAt (D) 0 (bv x1)):=r1
 have LX1:Hid (D<U.heap.size):=by show D<_;omega
 have RX2:Hid (U.rangeAt (D+1) 0 (bv x2)):=r2
 have LX2:Hid (D+1<U.heap.size):=by show D+1<_;omega
 have RX3:Hid (U.rangeAt (D+2) 0 (bv x3)):=r3
 have LX3:Hid (D+2<U.heap.size):=by show D+2<_;omega
 have RX4:Hid (U.rangeAt (D+3) 0 (bv x4)):=r4
 have LX4:Hid (D+3<U.heap.size):=by show D+3<_;omega
 have RX5:Hid (U.rangeAt (D+4) 0 (bv x5)):=r5
 have LX5:Hid (D+4<U.heap.size):=by show D+4<_;omega
 have THR:Hid (U.there (D+5) 0 32):=thr
 have LTR:Hid (D+5<U.heap.size):=by show D+5<_;omega
 clear r1 r2 r3 r4 r5 g1 g2 g3 g4 g5 g6 thr sU bU hA1 hA2 hA3 hA4 hA5 hx1 hx2 hx3 hx4 hx5 hJ hG
 go_enter Tryz.func32,Tryz.ntmps32
 go_upto_region 1 with (fail)
 try rw [hU]
 try rw [hD]
 clear hU hz1
 refine RG.wp_rgn' (GI U (Qj D G) (phC (chx x1 x2 x3 x4 x5) J) [(10,11,bv G,bv z64)]) (by kernel_rfl) (by kernel_rfl) GI.start ?_ ?_
 ·refine ⟨?_,?_,?_,?_,?_,?_,?_,?_,?_,?_,?_,?_,trivial⟩
  ·intro a W d V hI hd hpx hbk hf hp
   have hO':Below U.heap.size U W:=hI.be
   have hb:Below W.heap.size W (W.alloc (.cells (bv [3,2]).toArray 5)):=(Below.refl _ W).alloc (Nat.le_refl _) _
   refine RU.ob_run (v := .slice (some ⟨W.heap.size,0,none⟩) 2 2) (w':=W.alloc (.cells (bv [3,2]).toArray 5)) rfl (RU.wanted_none rfl) (fun ev he hc => ?_) ⟨_,rfl,hI.step (bj (chx x1 x2 x3 x4 x5) J) hb 0 _ (by simp) (fun u hu=>by cases hu) (eK W [3,2] _ 2 rfl)⟩
   simp only [qF,qD,qE,execOp]
   simp only [List.map_toArray,List.map_cons,List.map_nil,hc]
   first | (go_simp;done) | (go_simp;rfl) | rfl
  ·intro a W d V hI hd hpx hbk hf hp
   have hO':Below U.heap.size U W:=hI.be
   refine RU.ob_val (v := .slice (some ⟨D,0,none⟩) 32 32) rfl (RU.wanted_none rfl) (fun ev he hc => ?_) ⟨_,rfl,hI.step (bj (chx x1 x2 x3 x4 x5) J) (Below.refl _ _) 1 _ (by simp) (fun u hu=>by first | (cases hu;rfl) | cases hu) (trivial)⟩
   have q5:ev (.tmp 5) = .pointer (some ⟨D,0,none⟩):=(he (.tmp 5)).trans (hf 5 rfl)
   simp only [qF,qD,qE,execOp,YO,YP];rw [q5]
   first | (go_simp;done) | (go_simp;rfl) | rfl
  ·intro a W d V hI hd hpx hbk hf hp
   have hO':Below U.heap.size U W:=hI.be
   refine RU.ob_val (v := .slice (some ⟨D+1,0,none⟩) 32 32) rfl (RU.wanted_none rfl) (fun ev he hc => ?_) ⟨_,rfl,hI.step (bj (chx x1 x2 x3 x4 x5) J) (Below.refl _ _) 2 _ (by simp) (fun u hu=>by first | (cases hu;rfl) | cases hu) (trivial)⟩
   have q6:ev (.tmp 6) = .pointer (some ⟨D+1,0,none⟩):=(he (.tmp 6)).trans (hf 6 rfl)
   simp only [qF,qD,qE,execOp,YO,YP];rw [q6]
   first | (go_simp;done) | (go_simp;rfl) | rfl
  ·intro a W d V hI hd hpx hbk hf hp
   have hO':Below U.heap.size U W:=hI.be
   refine RU.ob_val (v := .slice (some ⟨D+2,0,none⟩) 32 32) rfl (RU.wanted_none rfl) (fun ev he hc => ?_) ⟨_,rfl,hI.step (bj (chx x1 x2 x3 x4 x5) J) (Below.refl _ _) 3 _ (by simp) (fun u hu=>by first | (cases hu;rfl) | cases hu) (trivial)⟩
   have q7:ev (.tmp 7) = .pointer (some ⟨D+2,0,none⟩):=(he (.tmp 7)).trans (hf 7 rfl)
   simp only [qF,qD,qE,execOp,YO,YP];rw [q7]
   first | (go_simp;done) | (go_simp;rfl) | rfl
  ·intro a W d V hI hd hpx hbk hf hp
   have hO':Below U.heap.size U W:=hI.be
   refine RU.ob_val (v := .slice (some ⟨D+3,0,none⟩) 32 32) rfl (RU.wanted_none rfl) (fun ev he hc => ?_) ⟨_,rfl,hI.step (bj (chx x1 x2 x3 x4 x5) J) (Below.refl _ _) 4 _ (by simp) (fun u hu=>by first | (cases hu;rfl) | cases hu) (trivial)⟩
   have q8:ev (.tmp 8) = .pointer (some ⟨D+3,0,none⟩):=(he (.tmp 8)).trans (hf 8 rfl)
   simp only [qF,qD,qE,execOp,YO,YP];rw [q8]
   first | (go_simp;done) | (go_simp;rfl) | rfl
  ·intro a W d V hI hd hpx hbk hf hp
   have hO':Below U.heap.size U W:=hI.be
   refine RU.ob_val (v := .slice (some ⟨D+4,0,none⟩) 32 32) rfl (RU.wanted_none rfl) (fun ev he hc => ?_) ⟨_,rfl,hI.step (bj (chx x1 x2 x3 x4 x5) J) (Below.refl _ _) 5 _ (by simp) (fun u hu=>by first | (cases hu;rfl) | cases hu) (trivial)⟩
   have q9:ev (.tmp 9) = .pointer (some ⟨D+4,0,none⟩):=(he (.tmp 9)).trans (hf 9 rfl)
   simp only [qF,qD,qE,execOp,YO,YP];rw [q9]
   first | (go_simp;done) | (go_simp;rfl) | rfl
  ·intro a W d V hI hd hpx hbk hf hp
   have hO':Below U.heap.size U W:=hI.be
   have hb:Below W.heap.size W (W.alloc (.cells (bv [0]).toArray 5)):=(Below.refl _ W).alloc (Nat.le_refl _) _
   refine RU.ob_run (v := .slice (some ⟨W.heap.size,0,none⟩) 1 1) (w':=W.alloc (.cells (bv [0]).toArray 5)) rfl (RU.wanted_none rfl) (fun ev he hc => ?_) ⟨_,rfl,hI.step (bj (chx x1 x2 x3 x4 x5) J) hb 6 _ (by simp) (fun u hu=>by cases hu) (eK W [0] _ 1 rfl)⟩
   simp only [qF,qD,qE,execOp]
   simp only [List.map_toArray,List.map_cons,List.map_nil,hc]
   first | (go_simp;done) | (go_simp;rfl) | rfl
  ·intro a W d V hI hd hpx hbk hf hp
   have hO':Below U.heap.size U W:=hI.be
   have hno : ∀ x ∈ ([(10,11,bv G,bv z64)]:List Al),d x.2.1=false:=by simp only [List.mem_cons,List.not_mem_nil,or_false,forall_eq_or_imp,forall_eq];exact hbk 11 rfl
   have e13:a.eval (.tmp 13)=V 0:=hp 0 13 rfl
   have e14:a.eval (.tmp 14) = .slice (some ⟨D,0,none⟩) 32 32:=(hp 1 14 rfl).trans (hI.kn 1 _ rfl (hpx 1 rfl))
   have e15:a.eval (.tmp 15) = .slice (some ⟨D+1,0,none⟩) 32 32:=(hp 2 15 rfl).trans (hI.kn 2 _ rfl (hpx 2 rfl))
   have e16:a.eval (.tmp 16) = .slice (some ⟨D+2,0,none⟩) 32 32:=(hp 3 16 rfl).trans (hI.kn 3 _ rfl (hpx 3 rfl))
   have e17:a.eval (.tmp 17) = .slice (some ⟨D+3,0,none⟩) 32 32:=(hp 4 17 rfl).trans (hI.kn 4 _ rfl (hpx 4 rfl))
   have e18:a.eval (.tmp 18) = .slice (some ⟨D+4,0,none⟩) 32 32:=(hp 5 18 rfl).trans (hI.kn 5 _ rfl (hpx 5 rfl))
   have e19:a.eval (.tmp 19)=V 6:=hp 6 19 rfl
   have s0:Sl W (V 0) [3,2]:=hI.pr 0 (hpx 0 rfl) hno
   have s6:Sl W (V 6) [0]:=hI.pr 6 (hpx 6 rfl) hno
   have s1:Sl W (.slice (some ⟨D,0,none⟩) 32 32) x1:=bo HX1.out (aa RX1.out hO' LX1.out) (YI LX1.out hO'.size)
   have s2:Sl W (.slice (some ⟨D+1,0,none⟩) 32 32) x2:=bo HX2.out (aa RX2.out hO' LX2.out) (YI LX2.out hO'.size)
   have s3:Sl W (.slice (some ⟨D+2,0,none⟩) 32 32) x3:=bo HX3.out (aa RX3.out hO' LX3.out) (YI LX3.out hO'.size)
   have s4:Sl W (.slice (some ⟨D+3,0,none⟩) 32 32) x4:=bo HX4.out (aa RX4.out hO' LX4.out) (YI LX4.out hO'.size)
   have s5:Sl W (.slice (some ⟨D+4,0,none⟩) 32 32) x5:=bo HX5.out (aa RX5.out hO' LX5.out) (YI LX5.out hO'.size)
   obtain ⟨a0,c0,hv0,-,-⟩:=id s0
   obtain ⟨a6,c6,hv6,-,-⟩:=id s6
   have hb:Below W.heap.size W (W.alloc (.cells ([V 0,.slice (some ⟨D,0,none⟩) 32 32,.slice (some ⟨D+1,0,none⟩) 32 32,.slice (some ⟨D+2,0,none⟩) 32 32,.slice (some ⟨D+3,0,none⟩) 32 32,.slice (some ⟨D+4,0,none⟩) 32 32,V 6]:List Value).toArray 23)):=(Below.refl _ W).alloc (Nat.le_refl _) _
   have hll:LL (W.alloc (.cells ([V 0,.slice (some ⟨D,0,none⟩) 32 32,.slice (some ⟨D+1,0,none⟩) 32 32,.slice (some ⟨D+2,0,none⟩) 32 32,.slice (some ⟨D+3,0,none⟩) 32 32,.slice (some ⟨D+4,0,none⟩) 32 32,V 6]:List Value).toArray 23)) (.slice (some ⟨W.heap.size,0,none⟩) 7 7) (chx x1 x2 x3 x4 x5):=lW _ _ _ 7 rfl rfl (fun i u hu=>by
    match i,hu with
    | 0,hu=>cases hu;exact s0
    | 1,hu=>cases hu;exact s1
    | 2,hu=>cases hu;exact s2
    | 3,hu=>cases hu;exact s3
    | 4,hu=>cases hu;exact s4
    | 5,hu=>cases hu;exact s5
    | 6,hu=>cases hu;exact s6
    | n+7,hu=>simp at hu)
   refine RU.ob_run (v := .slice (some ⟨W.heap.size,0,none⟩) 7 7) (w':=W.alloc (.cells ([V 0,.slice (some ⟨D,0,none⟩) 32 32,.slice (some ⟨D+1,0,none⟩) 32 32,.slice (some ⟨D+2,0,none⟩) 32 32,.slice (some ⟨D+3,0,none⟩) 32 32,.slice (some ⟨D+4,0,none⟩) 32 32,V 6]:List Value).toArray 23)) rfl (RU.wanted_none rfl) (fun ev he hc => ?_) ⟨_,rfl,hI.step (bj (chx x1 x2 x3 x4 x5) J) hb 7 _ (by simp) (fun u hu=>by cases hu) hll⟩
   have h13:=(he (.tmp 13)).trans e13
   have h14:=(he (.tmp 14)).trans e14
   have h15:=(he (.tmp 15)).trans e15
   have h16:=(he (.tmp 16)).trans e16
   have h17:=(he (.tmp 17)).trans e17
   have h18:=(he (.tmp 18)).trans e18
   have h19:=(he (.tmp 19)).trans e19
   simp only [qF,qD,qE,execOp]
   simp only [List.map_toArray,List.map_cons,List.map_nil,h13,h14,h15,h16,h17,h18,h19]
   rw [hv0,hv6]
   first | (go_simp;done) | (go_simp;rfl)
  ·intro a W d V hI hd hpx hbk hf hp
   have hO':Below U.heap.size U W:=hI.be
   have e20:a.eval (.tmp 20)=V 7:=hp 7 20 rfl
   have hno : ∀ x ∈ ([(10,11,bv G,bv z64)]:List Al),d x.2.1=false:=by simp only [List.mem_cons,List.not_mem_nil,or_false,forall_eq_or_imp,forall_eq];exact hbk 11 rfl
   refine RU.ob_call (g:=41) (args := #[V 7]) rfl (RU.wanted_none rfl) (fun ev he hc => ?_) ((iY (chx x1 x2 x3 x4 x5) J HJ.out (V 7) W (hI.pr 7 (hpx 7 rfl) hno) (Nat.le_trans HJL.out (by decide)) HN.out).mono ?_)
   ·have h20:=(he (.tmp 20)).trans e20
    have hfn:=he (.func 41)
    simp only [qF,qD,qE,execOp,YO,YP]
    simp only [resolve,invoke,Sem.run_bind,Sem.run_pure,Result.andThen_ok,List.map_toArray,List.map_cons,List.map_nil,h20,hfn,Act.eval,hc]
    rfl
   ·rintro e' W2 ⟨v9,rfl,g1,hb2⟩
    exact ⟨_,rfl,⟨_,rfl,hI.step (bj (chx x1 x2 x3 x4 x5) J) hb2 8 _ (by simp) (fun u hu=>by first | (cases hu;rfl) | cases hu) (g1.sq)⟩⟩
  ·intro a W d V hI hd hpx hbk hf hp
   have hO':Below U.heap.size U W:=hI.be
   have e21:a.eval (.tmp 21)=V 8:=hp 8 21 rfl
   have hno : ∀ x ∈ ([(10,11,bv G,bv z64)]:List Al),d x.2.1=false:=by simp only [List.mem_cons,List.not_mem_nil,or_false,forall_eq_or_imp,forall_eq];exact hbk 11 rfl
   refine RU.ob_call (g:=40) (args := #[V 8]) rfl (RU.wanted_none rfl) (fun ev he hc => ?_) ((fh J G (V 8) HG.out HJL.out W HJB.out (hI.pr 8 (hpx 8 rfl) hno)).mono ?_)
   ·have h21:=(he (.tmp 21)).trans e21
    have hfn:=he (.func 40)
    simp only [qF,qD,qE,execOp,YO,YP]
    simp only [resolve,invoke,Sem.run_bind,Sem.run_pure,Result.andThen_ok,List.map_toArray,List.map_cons,List.map_nil,h21,hfn,Act.eval,hc]
    rfl
   ·rintro e' W2 ⟨rfl,hb2⟩
    exact ⟨_,rfl,⟨_,rfl,hI.step (bj (chx x1 x2 x3 x4 x5) J) hb2 9 _ (by simp) (fun u hu=>by first | (cases hu;rfl) | cases hu) (trivial)⟩⟩
  ·intro a W d V hI hd hpx hbk hf hp
   have hO':Below U.heap.size U W:=hI.be
   refine RU.ob_run (v := .pointer (some ⟨W.heap.size,0,none⟩)) (w':=W.alloc (.cells (bv z64).toArray 29)) rfl (RU.wanted_none rfl) (fun ev he hc => ?_) ⟨_,rfl,hI.alloc (bj (chx x1 x2 x3 x4 x5) J) (10,11,bv G,bv z64) (by simp) 29 (hbk 11 rfl) (by simp) (by simp) rfl (fun _ _=>trivial)⟩
   simp only [qF,qD,qE,execOp]
   first | (go_simp;done) | (go_simp;rfl) | (go_simp;rw [dZ];rfl)
  ·intro a W d V hI hd hpx hbk hf hp
   have hO':Below U.heap.size U W:=hI.be
   have d9:d 10=true:=hpx 10 rfl
   obtain ⟨b,hV,-,-,hth,-⟩:=hI.pt (10,11,bv G,bv z64) (by simp) d9
   have qp:a.eval (.tmp 11) = .pointer (some ⟨b,0,none⟩):=(hp 10 11 rfl).trans hV
   have qv:a.eval (.tmp 22) = .agg (bv G).toArray:=(hp 9 22 rfl).trans (hI.kn 9 _ rfl (hpx 9 rfl))
   exact RU.ob_op rfl (RU.wanted_none rfl) (wp_store_mid 29 (.tmp 11) (.tmp 22) rfl b 0 (bv G).toArray qp qv (by rw [List.size_toArray,(show (bv G).length=(bv z64).length by rw [ae,HGL.out.1];rfl)];exact hth) (by rw [List.size_toArray];exact (show (Tryz.prog.info? 29).map (·.size)=some (bv G).length by rw [ae,HGL.out.1];exact aR)) (ar _) ⟨_,rfl,by simp only [YN];exact hI.store (10,11,bv G,bv z64) (by simp) d9 hV _ (by simp) (by simp) rfl (show (bv G).length=(bv z64).length by rw [ae,HGL.out.1];rfl) (by simp)⟩)
 intro W1 dW1 VW1 hal hI
 have BW1:Hid (Below U.heap.size U W1):=hI.be
 obtain ⟨u0,hs0⟩ : ∃ u,VW1 0=u:=⟨_,rfl⟩
 have hs1:VW1 1 = .slice (some ⟨D,0,none⟩) 32 32:=hI.kn 1 _ rfl (hal 1 (by decide))
 have hs2:VW1 2 = .slice (some ⟨D+1,0,none⟩) 32 32:=hI.kn 2 _ rfl (hal 2 (by decide))
 have hs3:VW1 3 = .slice (some ⟨D+2,0,none⟩) 32 32:=hI.kn 3 _ rfl (hal 3 (by decide))
 have hs4:VW1 4 = .slice (some ⟨D+3,0,none⟩) 32 32:=hI.kn 4 _ rfl (hal 4 (by decide))
 have hs5:VW1 5 = .slice (some ⟨D+4,0,none⟩) 32 32:=hI.kn 5 _ rfl (hal 5 (by decide))
 obtain ⟨u6,hs6⟩ : ∃ u,VW1 6=u:=⟨_,rfl⟩
 obtain ⟨u7,hs7⟩ : ∃ u,VW1 7=u:=⟨_,rfl⟩
 obtain ⟨u8,hs8⟩ : ∃ u,VW1 8=u:=⟨_,rfl⟩
 have hs9:VW1 9 = .agg (bv G).toArray:=hI.kn 9 _ rfl (hal 9 (by decide))
 obtain ⟨b10,hs10,hb10,hl10,-,hr10⟩:=hI.pt (10,11,bv G,bv z64) (by simp) (hal 10 (by decide))
 have hs10:VW1 10 = .pointer (some ⟨b10,0,none⟩):=hs10
 have R10W1:Hid (W1.rangeAt b10 0 (bv G)):=by have h9:dW1 11=true:=hal 11 (by decide);simp only [h9,if_true] at hr10;exact hr10
 have L10W1:Hid (b10<W1.heap.size):=hl10
 have G10W1:Hid (U.heap.size≤b10):=hb10
 simp only [RU.lay,Act.put,hs0,hs1,hs2,hs3,hs4,hs5,hs6,hs7,hs8,hs9,hs10]
 simp only [qA,qB,qC]
 clear hI hal hs0 hs1 hs2 hs3 hs4 hs5 hs6 hs7 hs8 hs9 hs10 hb10 hl10 hr10
 have HG16:Hid ((G.take 16).length=16):=by show _=_;rw [List.length_take,HGL.out.1];rfl
 have HZS:Hid (Z.size=32):=hZs
 go_upto_region 3 with fail
 obtain ⟨E,hE⟩ : ∃ n,W1.heap.size=n:=⟨_,rfl⟩
 have ra2:=eF W1 (bv (List.replicate 32 0)) 22 (0,0)
 have th2:=bM W1 (Z:=Z) (t:=22) (n:=32) HZS.out.symm
 rw [hZ] at ra2
 obtain ⟨W2,hW2⟩ : ∃ W,W1.alloc (.cells Z 22)=W:=⟨_,rfl⟩
 have B2:Hid (Below W1.heap.size W1 W2):=by rw [←hW2];exact (Below.refl _ W1).alloc (Nat.le_refl _) _
 have l2:W1.heap.size<W2.heap.size:=by rw [←hW2];simp
 rw [hW2] at ra2 th2
 rw [hE] at ra2 th2 l2
 have RE:Hid (W2.rangeAt E 0 (bv (List.replicate 32 0))):=ra2
 have TE:Hid (W2.there E 0 32):=th2
 have LE:Hid (E<W2.heap.size):=l2
 have GE:Hid (W1.heap.size=E):=hE
 have R2:Hid (W2.rangeAt b10 0 (bv G)):=aa R10W1.out B2.out L10W1.out
 have L2:Hid (b10<W2.heap.size):=YI L10W1.out B2.out.size
 try rw [hW2]
 try rw [hE]
 clear ra2 th2 l2 hE hW2 hZ
 refine RG.wp_rgn' (GL W2 (P9 E b10) (fun _ _ _=>True) [] 2 (E) (0) (bv (G.take 16))) (by kernel_rfl) (by kernel_rfl) GL.start ?_ ?_
 ·refine ⟨?_,?_,?_,trivial⟩
  ·refine GL.ob rfl ?_
   intro a W d V hI hd hpx hbk hf hp
   refine RU.ob_val (v := .slice (some ⟨E,0,none⟩) 16 32) rfl (RU.wanted_none rfl) (fun ev he hc => ?_) ⟨_,rfl,hI.step (fun _ _ _ _ _ _=>trivial) (Below.refl _ _) 0 _ (by simp) (fun u hu=>by first | (cases hu;rfl) | cases hu) trivial⟩
   have q12:ev (.tmp 12) = .pointer (some ⟨E,0,none⟩):=(he (.tmp 12)).trans (hf 12 rfl)
   simp only [qF,qD,qE,execOp,YO,YP];rw [q12]
   try simp only [hc]
   first | (go_simp;done) | (go_simp;rfl) | rfl
  ·refine GL.ob rfl ?_
   intro a W d V hI hd hpx hbk hf hp
   refine RU.ob_val (v := .slice (some ⟨b10,0,none⟩) 16 64) rfl (RU.wanted_none rfl) (fun ev he hc => ?_) ⟨_,rfl,hI.step (fun _ _ _ _ _ _=>trivial) (Below.refl _ _) 1 _ (by simp) (fun u hu=>by first | (cases hu;rfl) | cases hu) trivial⟩
   have q11:ev (.tmp 11) = .pointer (some ⟨b10,0,none⟩):=(he (.tmp 11)).trans (hf 11 rfl)
   simp only [qF,qD,qE,execOp,YO,YP];rw [q11]
   try simp only [hc]
   first | (go_simp;done) | (go_simp;rfl) | rfl
  ·refine GL.obs (fun a W d V hI hd hpx hbk hf hp => ?_)
   have hO':Below W2.heap.size W2 W:=hI.be
   have q1:a.eval (.tmp 23) = .slice (some ⟨E,0,none⟩) 16 32:=(hp 0 23 rfl).trans (hI.kn 0 _ rfl (hpx 0 rfl))
   have q2:a.eval (.tmp 24) = .slice (some ⟨b10,0,none⟩) 16 64:=(hp 1 24 rfl).trans (hI.kn 1 _ rfl (hpx 1 rfl))
   have hth:W.there (E) (0) (bv (G.take 16)).length:=by rw [ae,HG16.out];exact fun j hj=>an TE.out hO' LE.out j (by omega)
   have hrun:=run_copy_cells (P:=Tryz.prog) W 23 23 3 5 (E) (0) 16 32 ⟨b10,0,none⟩ 16 64 (bv (G.take 16)) Tryz.underlying23 eh (by rw [ae,HG16.out];rfl) (fun j u hu=>by rw [dO];exact (dN (aa R2.out hO' L2.out)) j u hu) (fun j hj=>(hth j hj).1) (fun j hj=>(hth j hj).2) (ia _)
   refine RU.ob_run (v:=goInt (bv (G.take 16)).length) (w':=W.setCells (E) (0) (bv (G.take 16))) rfl (RU.wanted_none rfl) (fun ev he hc => ?_) ⟨_,rfl,GL.stored hI rfl _⟩
   have e1:=(he (.tmp 23)).trans q1
   have e2:=(he (.tmp 24)).trans q2
   simp only [qF,qD,qE,execOp,resolve,invoke,builtin,Sem.run_bind,Sem.run_pure,Result.andThen_ok,List.map_toArray,List.map_cons,List.map_nil,e1,e2,hrun]
 intro W3x dW3 VW3 hal hG
 obtain ⟨hK,W3,W3y,hyW3⟩:=hG.fin (hal 2 (by decide))
 subst hyW3
 have BW3:Hid (Below W2.heap.size W2 W3):=W3y
 have hs0:VW3 0 = .slice (some ⟨E,0,none⟩) 16 32:=hK 0 _ rfl (hal 0 (by decide))
 have hs1:VW3 1 = .slice (some ⟨b10,0,none⟩) 16 64:=hK 1 _ rfl (hal 1 (by decide))
 obtain ⟨u2W3,hs2⟩ : ∃ u,VW3 2=u:=⟨_,rfl⟩
 simp only [RU.lay,Act.put,hs0,hs1,hs2]
 simp only [qA,qB,qC]
 clear hG hK hal W3y hs0 hs1 hs2
 have tl:(bv (G.take 16)).length=16:=by rw [ae,HG16.out]
 obtain ⟨Y,hY⟩ : ∃ Y,W3.setCells E 0 (bv (G.take 16))=Y:=⟨_,rfl⟩
 have RA:Y.rangeAt E 0 (bv (G.take 16)):=by rw [←hY];exact World.rangeAt_setCells_same _ _ _ _ (by rw [tl];exact fun j hj=>an TE.out BW3.out LE.out j (by omega))
 have RB:Y.rangeAt E 16 (bv (List.replicate 16 0)):=by
  rw [←hY]
  refine World.rangeAt_setCells_apart ?_ _ _ _ (.inr (.inr (by rw [tl];decide)))
  intro j v hj
  have:=aa RE.out BW3.out LE.out (16+j) v (by
   have hj':=(List.getElem?_eq_some_iff.1 hj).1
   rw [ae,List.length_replicate] at hj'
   rw [show bv (List.replicate 32 0)=bv (List.replicate 16 0) ++ bv (List.replicate 16 0) from rfl,List.getElem?_append_right (by rw [ae,List.length_replicate];omega),ae,List.length_replicate,show 16+j - 16=j by omega];exact hj)
  rwa [Nat.zero_add] at this
 obtain ⟨C,hC⟩ : ∃ C,G.take 16 ++ List.replicate 16 0=C:=⟨_,rfl⟩
 have RY:Hid (Y.rangeAt E 0 (bv C)):=by rw [←hC];exact j7 RA (by rw [HG16.out];exact RB)
 have CL:Hid ((bv C).length=32):=by show _=_;rw [←hC,ae,List.length_append,HG16.out,List.length_replicate]
 have HEC:Hid (C=chw x1 x2 x3 x4 x5):=by show _=_;rw [←hC,HE.out];rfl
 have BY:Hid (Below U.heap.size U Y):=by rw [←hY];exact af (by have:=GE.out;have:=BW1.out.size;omega) _ _ ((BW1.out.trans (B2.out.mono BW1.out.size)).trans (BW3.out.mono (Nat.le_trans BW1.out.size B2.out.size)))
 rw [hY]
 clear RA RB hY hC
 go_wp2_with (first
  | (refine wpList_load_mid rfl 22 (.tmp 12) rfl E 0 rfl (bv C) _ RY.out Tryz.underlying22 rfl (by rw [CL.out];exact aF) ?_)
  | (refine wpList_store_mid rfl 22 (.tmp 10) (.tmp 26) rfl (D+5) 0 (bv C).toArray rfl rfl (by show Y.there (D+5) 0 (bv C).length;rw [CL.out];exact an THR.out BY.out LTR.out) (by show _=some (bv C).length;rw [CL.out];exact aF) (ar _) ?_;simp only [YN]))
 have qq:(Y.setCells (D+5) 0 (bv C)).rangeAt (D+5) 0 (bv C):=World.rangeAt_setCells_same _ _ _ _ (by rw [CL.out];exact an THR.out BY.out LTR.out)
 have hbl:Below w.heap.size w (Y.setCells (D+5) 0 (bv C)):=af (by rw [HD.out];omega) _ _ (BU.out.trans (BY.out.mono BU.out.size))
 refine bodyPost_ret (v := .agg (bv C).toArray) ?_ rfl ⟨by rw [HEC.out],by have:=hbl;rw [HD.out] at this;exact this⟩
 simp only [results,Tryz.results32]
 simp [Act.put,asAddr,run_loadVar_mid _ (D+5) 0 22 (bv C) _ qq Tryz.underlying22 rfl (by rw [CL.out];exact aF)]
end Go.Proofs.YtajehiidpecknaaGreatDoor.Wi
