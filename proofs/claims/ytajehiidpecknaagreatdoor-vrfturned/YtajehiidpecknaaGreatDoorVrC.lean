import Derived.Test.YtajehiidpecknaaGreatDoorVhA
import Derived.Test.YtajehiidpecknaaGreatDoorVkA
set_option linter.all false
namespace Go.Proofs.YtajehiidpecknaaGreatDoor.Wi
open Go Go.RowKit
set_option maxRecDepth 100000
theorem aR:(Tryz.prog.info? 29).map (·.size)=some 64:=by kernel_rfl
theorem gX:(Tryz.prog.info? 47).map (·.size)=some 16:=by kernel_rfl
theorem dZ (w:World):(zeroValue 29).run Tryz.prog w = .ok (.agg (bv (List.replicate 64 0)).toArray) w:=by kernel_rfl
theorem ni (w:World):(zeroValue 47).run Tryz.prog w = .ok (.agg (bv (List.replicate 16 0)).toArray) w:=by kernel_rfl
def z64:List Int:=List.replicate 64 0
theorem aE {w w':World} (h:Glo Ve.MA w) (hb:Below w.heap.size w w'):Glo Ve.MA w':=h.below hb
theorem an {w w':World} {b o n:Nat} (h:w.there b o n) (hb:Below w.heap.size w w') (hl:b<w.heap.size):w'.there b o n:=fm h (hb.block b hl)
theorem dN {w:World} {b n:Nat} {x:List Int} (h:w.rangeAt b 0 (bv x)):w.rangeAt b 0 (bv (x.take n)):=fun j v hj=>h j v (by
 unfold bv at hj ⊢
 rw [List.map_take,List.getElem?_take] at hj
 split at hj
 ·exact hj
 ·cases hj)
theorem uW : ∀ (xs:List Obj) (h:Array Obj) (k:Nat),k<h.size→(xs.foldl Array.push h)[k]? = h[k]?
 | [],_,_,_=>rfl
 | x :: xs,h,k,hk=>by rw [List.foldl_cons,uW xs _ k (by simp;omega),Array.getElem?_push,if_neg (by omega)]
theorem aV : ∀ (xs:List Obj) (h:Array Obj) (i:Nat) (o:Obj),xs[i]? = some o→(xs.foldl Array.push h)[h.size+i]? = some o
 | x :: xs,h,0,o,hi=>by cases hi;rw [List.foldl_cons,uW xs _ _ (by simp),Array.getElem?_push,if_pos (by omega)]
 | x :: xs,h,i+1,o,hi=>by
  have:=aV xs (h.push x) i o hi
  rw [Array.size_push,Nat.add_assoc,Nat.add_comm 1 i] at this
  exact this
theorem eK (W:World) (x:List Int) (T:TypeId) (n:Nat) (hn:x.length=n):Sl (W.alloc (.cells (bv x).toArray T)) (.slice (some ⟨W.heap.size,0,none⟩) n n) x:=by
 subst hn
 exact ⟨_,x.length,rfl,Nat.le_refl _,.inr ⟨W.heap.size,0,rfl,by simp,fun i hi=>by rw [Nat.zero_add,fu,List.getElem?_toArray];exact de x hi⟩⟩
theorem lW {W:World} (us:List Value) (ps:List (List Int)) (T:TypeId) (n:Nat) (hl:us.length=n) (hn:ps.length=n) (h : ∀ i u,us[i]? = some u→Sl W u (mi ps i)):LL (W.alloc (.cells us.toArray T)) (.slice (some ⟨W.heap.size,0,none⟩) n n) ps:=by
 have hb:Below W.heap.size W (W.alloc (.cells us.toArray T)):=(Below.refl _ W).alloc (Nat.le_refl _) _
 subst hn
 refine ⟨_,ps.length,rfl,Nat.le_refl _,.inr ⟨W.heap.size,0,rfl,by simp,fun i hi => ?_⟩⟩
 have hi':i<us.length:=by omega
 refine ⟨us[i],?_,(h i _ (List.getElem?_eq_getElem hi')).below hb (Nat.le_refl _)⟩
 rw [Nat.zero_add,fu,List.getElem?_toArray,List.getElem?_eq_getElem hi']
def chx (a b c d e:List Int):List (List Int):=[[3,2],a,b,c,d,e,[0]]
def chl (a b c d e:List Int):List Int:=(h5 (joA (chx a b c d e))).take 16
def phC (x:List (List Int)) (J:List Int):Nat→Value→World→Prop
 | 0,v,W=>Sl W v [3,2]
 | 6,v,W=>Sl W v [0]
 | 7,v,W=>LL W v x
 | 8,v,W=>Sq W v J
 | _,_,_=>True
theorem bj (x:List (List Int)) (J:List Int) : ∀ i v W W',phC x J i v W→Below W.heap.size W W'→phC x J i v W':=by
 intro i v W W' h hb
 match i,h with
 | 0,h=>exact Sl.below (xs:=[3,2]) h hb (Nat.le_refl _)
 | 1,_=>trivial
 | 2,_=>trivial
 | 3,_=>trivial
 | 4,_=>trivial
 | 5,_=>trivial
 | 6,h=>exact Sl.below (xs:=[0]) h hb (Nat.le_refl _)
 | 7,h=>exact LL.below (xss:=x) h hb
 | 8,h=>exact Sq.below (xs:=J) h hb
 | n+9,_=>trivial
def Qa (D:Nat) (G:List Int):Nat→Option Value
 | 1=>some (.slice (some ⟨D,0,none⟩) 32 32)
 | 2=>some (.slice (some ⟨D+1,0,none⟩) 32 32)
 | 3=>some (.slice (some ⟨D+2,0,none⟩) 32 32)
 | 4=>some (.slice (some ⟨D+3,0,none⟩) 32 32)
 | 5=>some (.slice (some ⟨D+4,0,none⟩) 32 32)
 | 9=>some (.agg (bv G).toArray)
 | _=>none
set_option maxHeartbeats 4000000 in
theorem jA (x1 x2 x3 x4 x5:List Int) (hx1:L32 x1) (hx2:L32 x2) (hx3:L32 x3) (hx4:L32 x4) (hx5:L32 x5) (w:World) (hg:Glo Ve.MA w) :
  Calls Tryz.prog 24 #[.agg (bv x1).toArray,.agg (bv x2).toArray,.agg (bv x3).toArray,.agg (bv x4).toArray,.agg (bv x5).toArray] w fun e w'=>e = .returned (.agg (bv (chl x1 x2 x3 x4 x5)).toArray)∧Below w.heap.size w w':=by
 have HX1:Hid (L32 x1):=hx1
 have HX2:Hid (L32 x2):=hx2
 have HX3:Hid (L32 x3):=hx3
 have HX4:Hid (L32 x4):=hx4
 have HX5:Hid (L32 x5):=hx5
 obtain ⟨J,hJ⟩ : ∃ J,joA (chx x1 x2 x3 x4 x5)=J:=⟨_,rfl⟩
 obtain ⟨G,hG⟩ : ∃ G,h5 J=G:=⟨_,rfl⟩
 have HJ:Hid (joA (chx x1 x2 x3 x4 x5)=J):=hJ
 have HG:Hid (h5 J=G):=hG
 have HGL:Hid (G.length=64∧Byt G):=by rw [←hG];exact ⟨bq _,dS _⟩
 have HJB:Hid (Byt J):=by rw [←hJ];exact iG (fun m hm=>by
  simp only [chx,List.mem_cons,List.not_mem_nil,or_false] at hm
  rcases hm with rfl | rfl | rfl | rfl | rfl | rfl | rfl
  ·intro z hz;simp only [List.mem_cons,List.not_mem_nil,or_false] at hz;omega
  ·exact hx1.byt
  ·exact hx2.byt
  ·exact hx3.byt
  ·exact hx4.byt
  ·exact hx5.byt
  ·intro z hz;simp only [List.mem_cons,List.not_mem_nil,or_false] at hz;omega) _
 have HJL:Hid (J.length≤140737488354000):=by
  rw [←hJ];show ((((((([] ++ [3,2]) ++ x1) ++ x2) ++ x3) ++ x4) ++ x5) ++ [0]).length≤_
  simp only [List.length_append,hx1.len,hx2.len,hx3.len,hx4.len,hx5.len];decide
 have HN:Hid ((chx x1 x2 x3 x4 x5).length≤1000):=by show 7≤1000;omega
 have HE:Hid (G.take 16=chl x1 x2 x3 x4 x5):=by show _=_;rw [chl,hJ,hG]
 obtain ⟨A1,hA1⟩ : ∃ A,(bv x1).toArray=A:=⟨_,rfl⟩
 rw [hA1]
 obtain ⟨A2,hA2⟩ : ∃ A,(bv x2).toArray=A:=⟨_,rfl⟩
 rw [hA2]
 obtain ⟨A3,hA3⟩ : ∃ A,(bv x3).toArray=A:=⟨_,rfl⟩
 rw [hA3]
 obtain ⟨A4,hA4⟩ : ∃ A,(bv x4).toArray=A:=⟨_,rfl⟩
 rw [hA4]
 obtain ⟨A5,hA5⟩ : ∃ A,(bv x5).toArray=A:=⟨_,rfl⟩
 rw [hA5]
 have hz:=ni
 obtain ⟨Z,hZ⟩ : ∃ Z,(bv (List.replicate 16 0)).toArray=Z:=⟨_,rfl⟩
 have hZs:Z.size=16:=by rw [←hZ];simp [bv]
 rw [hZ] at hz
 have hz1:=hz w
 obtain ⟨U,hU⟩ : ∃ U,((((((w.alloc (.cells A1 22)).alloc (.cells A2 22)).alloc (.cells A3 22)).alloc (.cells A4 22)).alloc (.cells A5 22)).alloc (.cells Z 47))=U:=⟨_,rfl⟩
 have sU:U.heap.size=w.heap.size+6:=by rw [←hU];simp
 have bU:Below w.heap.size w U:=by rw [←hU];exact ((((((Below.refl _ w).alloc (Nat.le_refl _) _).alloc (by simp) _).alloc (by simp;omega) _).alloc (by simp;omega) _).alloc (by simp;omega) _).alloc (by simp;omega) _
 have g1:U.heap[w.heap.size]? = some (.cells A1 22 (0,0)):=by rw [←hU];exact aV [.cells A1 22 (0,0),.cells A2 22 (0,0),.cells A3 22 (0,0),.cells A4 22 (0,0),.cells A5 22 (0,0),.cells Z 47 (0,0)] w.heap 0 _ rfl
 have r1:U.rangeAt (w.heap.size) 0 (bv x1):=fun j v hj=>by rw [Nat.zero_add,cell_of_row U _ j _ _ _ g1,←hA1,List.getElem?_toArray];exact hj
 have g2:U.heap[w.heap.size+1]? = some (.cells A2 22 (0,0)):=by rw [←hU];exact aV [.cells A1 22 (0,0),.cells A2 22 (0,0),.cells A3 22 (0,0),.cells A4 22 (0,0),.cells A5 22 (0,0),.cells Z 47 (0,0)] w.heap 1 _ rfl
 have r2:U.rangeAt (w.heap.size+1) 0 (bv x2):=fun j v hj=>by rw [Nat.zero_add,cell_of_row U _ j _ _ _ g2,←hA2,List.getElem?_toArray];exact hj
 have g3:U.heap[w.heap.size+2]? = some (.cells A3 22 (0,0)):=by rw [←hU];exact aV [.cells A1 22 (0,0),.cells A2 22 (0,0),.cells A3 22 (0,0),.cells A4 22 (0,0),.cells A5 22 (0,0),.cells Z 47 (0,0)] w.heap 2 _ rfl
 have r3:U.rangeAt (w.heap.size+2) 0 (bv x3):=fun j v hj=>by rw [Nat.zero_add,cell_of_row U _ j _ _ _ g3,←hA3,List.getElem?_toArray];exact hj
 have g4:U.heap[w.heap.size+3]? = some (.cells A4 22 (0,0)):=by rw [←hU];exact aV [.cells A1 22 (0,0),.cells A2 22 (0,0),.cells A3 22 (0,0),.cells A4 22 (0,0),.cells A5 22 (0,0),.cells Z 47 (0,0)] w.heap 3 _ rfl
 have r4:U.rangeAt (w.heap.size+3) 0 (bv x4):=fun j v hj=>by rw [Nat.zero_add,cell_of_row U _ j _ _ _ g4,←hA4,List.getElem?_toArray];exact hj
 have g5:U.heap[w.heap.size+4]? = some (.cells A5 22 (0,0)):=by rw [←hU];exact aV [.cells A1 22 (0,0),.cells A2 22 (0,0),.cells A3 22 (0,0),.cells A4 22 (0,0),.cells A5 22 (0,0),.cells Z 47 (0,0)] w.heap 4 _ rfl
 have r5:U.rangeAt (w.heap.size+4) 0 (bv x5):=fun j v hj=>by rw [Nat.zero_add,cell_of_row U _ j _ _ _ g5,←hA5,List.getElem?_toArray];exact hj
 have g6:U.heap[w.heap.size+5]? = some (.cells Z 47 (0,0)):=by rw [←hU];exact aV [.cells A1 22 (0,0),.cells A2 22 (0,0),.cells A3 22 (0,0),.cells A4 22 (0,0),.cells A5 22 (0,0),.cells Z 47 (0,0)] w.heap 5 _ rfl
 have thr:U.there (w.heap.size+5) 0 16:=aO g6 0 16 (by omega)
 have BU:Hid (Below w.heap.size w U):=bU
 have HGU:Hid (Glo Ve.MA U):=hg.below bU
 obtain ⟨D,hD⟩ : ∃ D,w.heap.size=D:=⟨_,rfl⟩
 have HD:Hid (w.heap.size=D):=hD
 rw [hD] at sU r1 r2 r3 r4 r5 thr
 have RX1:Hid (U.rangeAt (D) 0 (bv x1)):=r1
 have LX1:Hid (D<U.heap.size):=by show D<_;omega
 have RX2:Hid (U.rangeAt (D+1) 0 (bv x2)):=r2
 have LX2:Hid (D+1<U.heap.size):=by show D+1<_;omega
 have RX3:Hid (U.rangeAt (D+2) 0 (bv x3)):=r3
 have LX3:Hid (D+2<U.heap.size):=by show D+2<_;omega
 have RX4:Hid (U.rangeAt (D+3) 0 (bv x4)):=r4
 have LX4:Hid (D+3<U.heap.size):=by show D+3<_;omega
 have RX5:Hid (U.rangeAt (D+4) 0 (bv x5)):=r5
 have LX5:Hid (D+4<U.heap.size):=by show D+4<_;omega
 have THR:Hid (U.there (D+5) 0 16):=thr
 have LTR:Hid (D+5<U.heap.size):=by show D+5<_;omega
 clear r1 r2 r3 r4 r5 g1 g2 g3 g4 g5 g6 thr sU bU hA1 hA2 hA3 hA4 hA5 hZ hx1 hx2 hx3 hx4 hx5 hJ hG hg hZs
 go_enter Tryz.func24,Tryz.ntmps24
 go_upto_region 1 with (fail)
 try rw [hU]
 try rw [hD]
 clear hU hz hz1
 refine RG.wp_rgn' (GI U (Qa D G) (phC (chx x1 x2 x3 x4 x5) J) [(10,11,bv G,bv z64)]) (by kernel_rfl) (by kernel_rfl) GI.start ?_ ?_
 ·refine ⟨?_,?_,?_,?_,?_,?_,?_,?_,?_,?_,?_,?_,trivial⟩
  ·intro a W d V hI hd hpx hbk hf hp
   have hO':Below U.heap.size U W:=hI.be
   have hb:Below W.heap.size W (W.alloc (.cells (bv [3,2]).toArray 5)):=(Below.refl _ W).alloc (Nat.le_refl _) _
   refine RU.ob_run (v := .slice (some ⟨W.heap.size,0,none⟩) 2 2) (w':=W.alloc (.cells (bv [3,2]).toArray 5)) rfl (RU.wanted_none rfl) (fun ev he hc => ?_) ⟨_,rfl,hI.step (bj (chx x1 x2 x3 x4 x5) J) hb 0 _ (by simp) (fun u hu=>by cases hu) (eK W [3,2] _ 2 rfl)⟩
   simp only [qF,qD,qE,execOp]
   simp only [List.map_toArray,List.map_cons,List.map_nil,hc]
   first | (go_simp;done) | (go_simp;rfl) | rfl
  ·intro a W d V hI hd hpx hbk hf hp
   have hO':Below U.heap.size U W:=hI.be
   refine RU.ob_val (v := .slice (some ⟨D,0,none⟩) 32 32) rfl (RU.wanted_none rfl) (fun ev he hc => ?_) ⟨_,rfl,hI.step (bj (chx x1 x2 x3 x4 x5) J) (Below.refl _ _) 1 _ (by simp) (fun u hu=>by first | (cases hu;rfl) | cases hu) (trivial)⟩
   have q5:ev (.tmp 5) = .pointer (some ⟨D,0,none⟩):=(he (.tmp 5)).trans (hf 5 rfl)
   simp only [qF,qD,qE,execOp,YO,YP];rw [q5]
   first | (go_simp;done) | (go_simp;rfl) | rfl
  ·intro a W d V hI hd hpx hbk hf hp
   have hO':Below U.heap.size U W:=hI.be
   refine RU.ob_val (v := .slice (some ⟨D+1,0,none⟩) 32 32) rfl (RU.wanted_none rfl) (fun ev he hc => ?_) ⟨_,rfl,hI.step (bj (chx x1 x2 x3 x4 x5) J) (Below.refl _ _) 2 _ (by simp) (fun u hu=>by first | (cases hu;rfl) | cases hu) (trivial)⟩
   have q6:ev (.tmp 6) = .pointer (some ⟨D+1,0,none⟩):=(he (.tmp 6)).trans (hf 6 rfl)
   simp only [qF,qD,qE,execOp,YO,YP];rw [q6]
   first | (go_simp;done) | (go_simp;rfl) | rfl
  ·intro a W d V hI hd hpx hbk hf hp
   have hO':Below U.heap.size U W:=hI.be
   refine RU.ob_val (v := .slice (some ⟨D+2,0,none⟩) 32 32) rfl (RU.wanted_none rfl) (fun ev he hc => ?_) ⟨_,rfl,hI.step (bj (chx x1 x2 x3 x4 x5) J) (Below.refl _ _) 3 _ (by simp) (fun u hu=>by first | (cases hu;rfl) | cases hu) (trivial)⟩
   have q7:ev (.tmp 7) = .pointer (some ⟨D+2,0,none⟩):=(he (.tmp 7)).trans (hf 7 rfl)
   simp only [qF,qD,qE,execOp,YO,YP];rw [q7]
   first | (go_simp;done) | (go_simp;rfl) | rfl
  ·intro a W d V hI hd hpx hbk hf hp
   have hO':Below U.heap.size U W:=hI.be
   refine RU.ob_val (v := .slice (some ⟨D+3,0,none⟩) 32 32) rfl (RU.wanted_none rfl) (fun ev he hc => ?_) ⟨_,rfl,hI.step (bj (chx x1 x2 x3 x4 x5) J) (Below.refl _ _) 4 _ (by simp) (fun u hu=>by first | (cases hu;rfl) | cases hu) (trivial)⟩
   have q8:ev (.tmp 8) = .pointer (some ⟨D+3,0,none⟩):=(he (.tmp 8)).trans (hf 8 rfl)
   simp only [qF,qD,qE,execOp,YO,YP];rw [q8]
   first | (go_simp;done) | (go_simp;rfl) | rfl
  ·intro a W d V hI hd hpx hbk hf hp
   have hO':Below U.heap.size U W:=hI.be
   refine RU.ob_val (v := .slice (some ⟨D+4,0,none⟩) 32 32) rfl (RU.wanted_none rfl) (fun ev he hc => ?_) ⟨_,rfl,hI.step (bj (chx x1 x2 x3 x4 x5) J) (Below.refl _ _) 5 _ (by simp) (fun u hu=>by first | (cases hu;rfl) | cases hu) (trivial)⟩
   have q9:ev (.tmp 9) = .pointer (some ⟨D+4,0,none⟩):=(he (.tmp 9)).trans (hf 9 rfl)
   simp only [qF,qD,qE,execOp,YO,YP];rw [q9]
   first | (go_simp;done) | (go_simp;rfl) | rfl
  ·intro a W d V hI hd hpx hbk hf hp
   have hO':Below U.heap.size U W:=hI.be
   have hb:Below W.heap.size W (W.alloc (.cells (bv [0]).toArray 5)):=(Below.refl _ W).alloc (Nat.le_refl _) _
   refine RU.ob_run (v := .slice (some ⟨W.heap.size,0,none⟩) 1 1) (w':=W.alloc (.cells (bv [0]).toArray 5)) rfl (RU.wanted_none rfl) (fun ev he hc => ?_) ⟨_,rfl,hI.step (bj (chx x1 x2 x3 x4 x5) J) hb 6 _ (by simp) (fun u hu=>by cases hu) (eK W [0] _ 1 rfl)⟩
   simp only [qF,qD,qE,execOp]
   simp only [List.map_toArray,List.map_cons,List.map_nil,hc]
   first | (go_simp;done) | (go_simp;rfl) | rfl
  ·intro a W d V hI hd hpx hbk hf hp
   have hO':Below U.heap.size U W:=hI.be
   have hno : ∀ x ∈ ([(10,11,bv G,bv z64)]:List Al),d x.2.1=false:=by simp only [List.mem_cons,List.not_mem_nil,or_false,forall_eq_or_imp,forall_eq];exact hbk 11 rfl
   have e12:a.eval (.tmp 12)=V 0:=hp 0 12 rfl
   have e13:a.eval (.tmp 13) = .slice (some ⟨D,0,none⟩) 32 32:=(hp 1 13 rfl).trans (hI.kn 1 _ rfl (hpx 1 rfl))
   have e14:a.eval (.tmp 14) = .slice (some ⟨D+1,0,none⟩) 32 32:=(hp 2 14 rfl).trans (hI.kn 2 _ rfl (hpx 2 rfl))
   have e15:a.eval (.tmp 15) = .slice (some ⟨D+2,0,none⟩) 32 32:=(hp 3 15 rfl).trans (hI.kn 3 _ rfl (hpx 3 rfl))
   have e16:a.eval (.tmp 16) = .slice (some ⟨D+3,0,none⟩) 32 32:=(hp 4 16 rfl).trans (hI.kn 4 _ rfl (hpx 4 rfl))
   have e17:a.eval (.tmp 17) = .slice (some ⟨D+4,0,none⟩) 32 32:=(hp 5 17 rfl).trans (hI.kn 5 _ rfl (hpx 5 rfl))
   have e18:a.eval (.tmp 18)=V 6:=hp 6 18 rfl
   have s0:Sl W (V 0) [3,2]:=hI.pr 0 (hpx 0 rfl) hno
   have s6:Sl W (V 6) [0]:=hI.pr 6 (hpx 6 rfl) hno
   have s1:Sl W (.slice (some ⟨D,0,none⟩) 32 32) x1:=bo HX1.out (aa RX1.out hO' LX1.out) (YI LX1.out hO'.size)
   have s2:Sl W (.slice (some ⟨D+1,0,none⟩) 32 32) x2:=bo HX2.out (aa RX2.out hO' LX2.out) (YI LX2.out hO'.size)
   have s3:Sl W (.slice (some ⟨D+2,0,none⟩) 32 32) x3:=bo HX3.out (aa RX3.out hO' LX3.out) (YI LX3.out hO'.size)
   have s4:Sl W (.slice (some ⟨D+3,0,none⟩) 32 32) x4:=bo HX4.out (aa RX4.out hO' LX4.out) (YI LX4.out hO'.size)
   have s5:Sl W (.slice (some ⟨D+4,0,none⟩) 32 32) x5:=bo HX5.out (aa RX5.out hO' LX5.out) (YI LX5.out hO'.size)
   obtain ⟨a0,c0,hv0,-,-⟩:=id s0
   obtain ⟨a6,c6,hv6,-,-⟩:=id s6
   have hb:Below W.heap.size W (W.alloc (.cells ([V 0,.slice (some ⟨D,0,none⟩) 32 32,.slice (some ⟨D+1,0,none⟩) 32 32,.slice (some ⟨D+2,0,none⟩) 32 32,.slice (some ⟨D+3,0,none⟩) 32 32,.slice (some ⟨D+4,0,none⟩) 32 32,V 6]:List Value).toArray 23)):=(Below.refl _ W).alloc (Nat.le_refl _) _
   have hll:LL (W.alloc (.cells ([V 0,.slice (some ⟨D,0,none⟩) 32 32,.slice (some ⟨D+1,0,none⟩) 32 32,.slice (some ⟨D+2,0,none⟩) 32 32,.slice (some ⟨D+3,0,none⟩) 32 32,.slice (some ⟨D+4,0,none⟩) 32 32,V 6]:List Value).toArray 23)) (.slice (some ⟨W.heap.size,0,none⟩) 7 7) (chx x1 x2 x3 x4 x5):=lW _ _ _ 7 rfl rfl (fun i u hu=>by
    match i,hu with
    | 0,hu=>cases hu;exact s0
    | 1,hu=>cases hu;exact s1
    | 2,hu=>cases hu;exact s2
    | 3,hu=>cases hu;exact s3
    | 4,hu=>cases hu;exact s4
    | 5,hu=>cases hu;exact s5
    | 6,hu=>cases hu;exact s6
    | n+7,hu=>simp at hu)
   refine RU.ob_run (v := .slice (some ⟨W.heap.size,0,none⟩) 7 7) (w':=W.alloc (.cells ([V 0,.slice (some ⟨D,0,none⟩) 32 32,.slice (some ⟨D+1,0,none⟩) 32 32,.slice (some ⟨D+2,0,none⟩) 32 32,.slice (some ⟨D+3,0,none⟩) 32 32,.slice (some ⟨D+4,0,none⟩) 32 32,V 6]:List Value).toArray 23)) rfl (RU.wanted_none rfl) (fun ev he hc => ?_) ⟨_,rfl,hI.step (bj (chx x1 x2 x3 x4 x5) J) hb 7 _ (by simp) (fun u hu=>by cases hu) hll⟩
   have h12:=(he (.tmp 12)).trans e12
   have h13:=(he (.tmp 13)).trans e13
   have h14:=(he (.tmp 14)).trans e14
   have h15:=(he (.tmp 15)).trans e15
   have h16:=(he (.tmp 16)).trans e16
   have h17:=(he (.tmp 17)).trans e17
   have h18:=(he (.tmp 18)).trans e18
   simp only [qF,qD,qE,execOp]
   simp only [List.map_toArray,List.map_cons,List.map_nil,h12,h13,h14,h15,h16,h17,h18]
   rw [hv0,hv6]
   first | (go_simp;done) | (go_simp;rfl)
  ·intro a W d V hI hd hpx hbk hf hp
   have hO':Below U.heap.size U W:=hI.be
   have e19:a.eval (.tmp 19)=V 7:=hp 7 19 rfl
   have hno : ∀ x ∈ ([(10,11,bv G,bv z64)]:List Al),d x.2.1=false:=by simp only [List.mem_cons,List.not_mem_nil,or_false,forall_eq_or_imp,forall_eq];exact hbk 11 rfl
   refine RU.ob_call (g:=23) (args := #[V 7]) rfl (RU.wanted_none rfl) (fun ev he hc => ?_) ((fg (chx x1 x2 x3 x4 x5) J HJ.out (V 7) W (hI.pr 7 (hpx 7 rfl) hno) (Nat.le_trans HJL.out (by decide)) HN.out).mono ?_)
   ·have h19:=(he (.tmp 19)).trans e19
    have hfn:=he (.func 23)
    simp only [qF,qD,qE,execOp,YO,YP]
    simp only [resolve,invoke,Sem.run_bind,Sem.run_pure,Result.andThen_ok,List.map_toArray,List.map_cons,List.map_nil,h19,hfn,Act.eval,hc]
    rfl
   ·rintro e' W2 ⟨v9,rfl,g1,hb2⟩
    exact ⟨_,rfl,⟨_,rfl,hI.step (bj (chx x1 x2 x3 x4 x5) J) hb2 8 _ (by simp) (fun u hu=>by first | (cases hu;rfl) | cases hu) (g1.sq)⟩⟩
  ·intro a W d V hI hd hpx hbk hf hp
   have hO':Below U.heap.size U W:=hI.be
   have e20:a.eval (.tmp 20)=V 8:=hp 8 20 rfl
   have hno : ∀ x ∈ ([(10,11,bv G,bv z64)]:List Al),d x.2.1=false:=by simp only [List.mem_cons,List.not_mem_nil,or_false,forall_eq_or_imp,forall_eq];exact hbk 11 rfl
   refine RU.ob_call (g:=22) (args := #[V 8]) rfl (RU.wanted_none rfl) (fun ev he hc => ?_) ((gh J G (V 8) HG.out HJL.out W (Ve.gp (aE HGU.out hO')).tb HJB.out (hI.pr 8 (hpx 8 rfl) hno)).mono ?_)
   ·have h20:=(he (.tmp 20)).trans e20
    have hfn:=he (.func 22)
    simp only [qF,qD,qE,execOp,YO,YP]
    simp only [resolve,invoke,Sem.run_bind,Sem.run_pure,Result.andThen_ok,List.map_toArray,List.map_cons,List.map_nil,h20,hfn,Act.eval,hc]
    rfl
   ·rintro e' W2 ⟨rfl,hb2⟩
    exact ⟨_,rfl,⟨_,rfl,hI.step (bj (chx x1 x2 x3 x4 x5) J) hb2 9 _ (by simp) (fun u hu=>by first | (cases hu;rfl) | cases hu) (trivial)⟩⟩
  ·intro a W d V hI hd hpx hbk hf hp
   have hO':Below U.heap.size U W:=hI.be
   refine RU.ob_run (v := .pointer (some ⟨W.heap.size,0,none⟩)) (w':=W.alloc (.cells (bv z64).toArray 29)) rfl (RU.wanted_none rfl) (fun ev he hc => ?_) ⟨_,rfl,hI.alloc (bj (chx x1 x2 x3 x4 x5) J) (10,11,bv G,bv z64) (by simp) 29 (hbk 11 rfl) (by simp) (by simp) rfl (fun _ _=>trivial)⟩
   simp only [qF,qD,qE,execOp]
   first | (go_simp;done) | (go_simp;rfl) | (go_simp;rw [dZ];rfl)
  ·intro a W d V hI hd hpx hbk hf hp
   have hO':Below U.heap.size U W:=hI.be
   have d9:d 10=true:=hpx 10 rfl
   obtain ⟨b,hV,-,-,hth,-⟩:=hI.pt (10,11,bv G,bv z64) (by simp) d9
   have qp:a.eval (.tmp 11) = .pointer (some ⟨b,0,none⟩):=(hp 10 11 rfl).trans hV
   have qv:a.eval (.tmp 21) = .agg (bv G).toArray:=(hp 9 21 rfl).trans (hI.kn 9 _ rfl (hpx 9 rfl))
   exact RU.ob_op rfl (RU.wanted_none rfl) (wp_store_mid 29 (.tmp 11) (.tmp 21) rfl b 0 (bv G).toArray qp qv (by rw [List.size_toArray,(show (bv G).length=(bv z64).length by rw [ae,HGL.out.1];rfl)];exact hth) (by rw [List.size_toArray];exact (show (Tryz.prog.info? 29).map (·.size)=some (bv G).length by rw [ae,HGL.out.1];exact aR)) (ar _) ⟨_,rfl,by simp only [YN];exact hI.store (10,11,bv G,bv z64) (by simp) d9 hV _ (by simp) (by simp) rfl (show (bv G).length=(bv z64).length by rw [ae,HGL.out.1];rfl) (by simp)⟩)
 intro W1 dW1 VW1 hal hI
 have BW1:Hid (Below U.heap.size U W1):=hI.be
 obtain ⟨u0,hs0⟩ : ∃ u,VW1 0=u:=⟨_,rfl⟩
 have hs1:VW1 1 = .slice (some ⟨D,0,none⟩) 32 32:=hI.kn 1 _ rfl (hal 1 (by decide))
 have hs2:VW1 2 = .slice (some ⟨D+1,0,none⟩) 32 32:=hI.kn 2 _ rfl (hal 2 (by decide))
 have hs3:VW1 3 = .slice (some ⟨D+2,0,none⟩) 32 32:=hI.kn 3 _ rfl (hal 3 (by decide))
 have hs4:VW1 4 = .slice (some ⟨D+3,0,none⟩) 32 32:=hI.kn 4 _ rfl (hal 4 (by decide))
 have hs5:VW1 5 = .slice (some ⟨D+4,0,none⟩) 32 32:=hI.kn 5 _ rfl (hal 5 (by decide))
 obtain ⟨u6,hs6⟩ : ∃ u,VW1 6=u:=⟨_,rfl⟩
 obtain ⟨u7,hs7⟩ : ∃ u,VW1 7=u:=⟨_,rfl⟩
 obtain ⟨u8,hs8⟩ : ∃ u,VW1 8=u:=⟨_,rfl⟩
 have hs9:VW1 9 = .agg (bv G).toArray:=hI.kn 9 _ rfl (hal 9 (by decide))
 obtain ⟨b10,hs10,hb10,hl10,-,hr10⟩:=hI.pt (10,11,bv G,bv z64) (by simp) (hal 10 (by decide))
 have hs10:VW1 10 = .pointer (some ⟨b10,0,none⟩):=hs10
 have R10W1:Hid (W1.rangeAt b10 0 (bv G)):=by have h9:dW1 11=true:=hal 11 (by decide);simp only [h9,if_true] at hr10;exact hr10
 have L10W1:Hid (b10<W1.heap.size):=hl10
 have G10W1:Hid (U.heap.size≤b10):=hb10
 simp only [RU.lay,Act.put,hs0,hs1,hs2,hs3,hs4,hs5,hs6,hs7,hs8,hs9,hs10]
 simp only [qA,qB,qC]
 clear hI hal hs0 hs1 hs2 hs3 hs4 hs5 hs6 hs7 hs8 hs9 hs10 hb10 hl10 hr10
 have HG16:Hid ((G.take 16).length=16):=by show _=_;rw [List.length_take,HGL.out.1];rfl
 have ha1:(Instr.arrayAt 47 (.slice (some ⟨b10,0,none⟩) 16 64)).run Tryz.prog W1 = .ok (.pointer (some ⟨b10,0,none⟩)) W1:=by rfl
 go_wp2_with (first
  | (refine wpList_load_mid rfl 47 (.tmp 23) rfl b10 0 rfl (bv (G.take 16)) _ (dN R10W1.out) Tryz.underlying47 rfl (by rw [ae,HG16.out];exact gX) ?_)
  | (refine wpList_store_mid rfl 47 (.tmp 10) (.tmp 24) rfl (D+5) 0 (bv (G.take 16)).toArray rfl rfl (by show W1.there (D+5) 0 (bv (G.take 16)).length;rw [ae,HG16.out];exact an THR.out BW1.out LTR.out) (by show _=some (bv (G.take 16)).length;rw [ae,HG16.out];exact gX) (ar _) ?_;simp only [YN]))
 have qq:(W1.setCells (D+5) 0 (bv (G.take 16))).rangeAt (D+5) 0 (bv (G.take 16)):=World.rangeAt_setCells_same _ _ _ _ (by rw [ae,HG16.out];exact an THR.out BW1.out LTR.out)
 have hbl:Below w.heap.size w (W1.setCells (D+5) 0 (bv (G.take 16))):=af (by rw [HD.out];omega) _ _ (BU.out.trans (BW1.out.mono BU.out.size))
 refine bodyPost_ret (v := .agg (bv (G.take 16)).toArray) ?_ rfl ⟨by rw [HE.out],by have:=hbl;rw [HD.out] at this;exact this⟩
 simp only [results,Tryz.results24]
 simp [Act.put,asAddr,run_loadVar_mid _ (D+5) 0 47 (bv (G.take 16)) _ qq Tryz.underlying47 rfl (by rw [ae,HG16.out];exact gX)]
end Go.Proofs.YtajehiidpecknaaGreatDoor.Wi
