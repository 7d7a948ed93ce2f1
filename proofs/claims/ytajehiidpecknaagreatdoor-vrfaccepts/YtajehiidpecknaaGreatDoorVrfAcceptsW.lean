/- VrfAccepts, walked. -/
import Derived.Test.YtajehiidpecknaaGreatDoorVrL
import Derived.Test.YtajehiidpecknaaGreatDoorVrT
set_option linter.unusedSimpArgs false
set_option linter.unusedVariables false
namespace Go.Proofs.YtajehiidpecknaaGreatDoor.Wi
open Go Go.RowKit
set_option maxRecDepth 100000
def MP (D e1:Nat) (a0:Option Addr) (n0 c0:Nat) (s Y Vp O:List Int):Nat→Option Value
 | 0=>some (.agg (bv s).toArray)
 | 1=>some (.agg (bv Y).toArray)
 | 2=>some (.slice a0 n0 c0)
 | 3=>some (.agg (bv Vp).toArray)
 | 4=>some (.tuple #[.agg (bv O).toArray,.int .i64 0])
 | 5=>some (.tuple #[.agg (bv O).toArray,.int .i64 0])
 | 6=>some (.agg (bv O).toArray)
 | 7=>some (.int .i64 0)
 | 10=>some (.int .i64 0)
 | _=>none
theorem LU {s p:List Int} (h:kZ (pvI s p)=0):vyE (Bs (Ve.sk s)) p (pvV s p)=0∧otE (pvV s p)=0:=by
 cases e:pvI s p with
 | none=>rw [e] at h;cases h
 | some I=>exact CL e
theorem Ed (o:Option (List Int)):kZ o=4∨kZ o=0:=by cases o;exact .inl rfl;exact .inr rfl
set_option maxHeartbeats 8000000 in
theorem te (s p:List Int) (hs:L32 s) (hp:Byt p) (hl:p.length≤140737488353000) (v:Value) (w:World) (hv:Sl w v p) (hg:Glo Ve.MA w) :
  Calls Tryz.prog 5 #[.agg (bv s).toArray,v] w fun e w'=>e = .returned (.bool true)∧Below w.heap.size w w':=by
 have HA:Hid (L32 s):=hs
 have HVW:Hid (Sl w v p):=hv
 obtain ⟨a0,c0,hv0,-,-⟩:=id HVW.out
 obtain ⟨n0,hn0⟩ : ∃ n,p.length=n:=⟨_,rfl⟩
 rw [hn0] at hv0
 subst hv0
 have hacc := @LU s p
 have hor:=Ed (pvI s p)
 obtain ⟨Vp,hV⟩ : ∃ z,pvV s p=z:=⟨_,rfl⟩
 obtain ⟨E,hE⟩ : ∃ z,kZ (pvI s p)=z:=⟨_,rfl⟩
 obtain ⟨Y,hY⟩ : ∃ z,Bs (Ve.sk s)=z:=⟨_,rfl⟩
 have hYL:L32 Y:=by rw [←hY];exact L32.bs _
 have HVL:Hid (Vp.length=80):=by rw [←hV];exact D5 _ _
 have HVB:Hid (Byt Vp):=by rw [←hV];exact Ex _ _
 obtain ⟨O,hO⟩ : ∃ z,otV Vp=z:=⟨_,rfl⟩
 have HOL:Hid (O.length=64):=by rw [←hO];exact xQ _
 have HAW:Hid (∀ W,Glo Ve.MA W→Calls Tryz.prog 8 #[] W fun e w'=>e = .returned (.bool true)∧Below W.heap.size W w'):=yd
 have HPV:Hid (∀ W,Sl W (.slice a0 n0 c0) p→Glo Ve.MA W→Calls Tryz.prog 9 #[.agg (bv s).toArray,.slice a0 n0 c0] W fun e w'=>e = .returned (.tuple #[.agg (bv Vp).toArray,.int .i64 E])∧Below W.heap.size W w'):=fun W h1 h2=>by rw [←hV,←hE];exact pU s p hs hp hl _ W h1 h2
 have HPB:Hid (∀ W,Calls Tryz.prog 15 #[.agg (bv s).toArray] W fun e w'=>e = .returned (.agg (bv Y).toArray)∧Below W.heap.size W w'):=fun W=>by rw [←hY];exact Ai s hs W
 rw [hV,hE,hY] at hacc
 rw [hE] at hor
 have HOR:Hid (E=4∨E=0):=hor
 have HVF:Hid (E=0 → ∀ W,Sl W (.slice a0 n0 c0) p→Glo Ve.MA W→Calls Tryz.prog 13 #[.agg (bv Y).toArray,.slice a0 n0 c0,.agg (bv Vp).toArray] W fun e w'=>e = .returned (.tuple #[.agg (bv O).toArray,.int .i64 0])∧Below W.heap.size W w'):=fun h0 W h1 h2=>by
  obtain ⟨q1,q2⟩:=hacc h0
  have t:=uA Y p Vp hYL hp hl HVL.out HVB.out _ W h1 h2
  rw [Gn q1,q1,hO] at t
  exact t
 have HOT:Hid (E=0 → ∀ W,Glo Ve.MA W→Calls Tryz.prog 11 #[.agg (bv Vp).toArray] W fun e w'=>e = .returned (.tuple #[.agg (bv O).toArray,.int .i64 0])∧Below W.heap.size W w'):=fun h0 W h2=>by
  obtain ⟨q1,q2⟩:=hacc h0
  have t:=mU Vp HVL.out HVB.out W h2
  rw [hO,q2] at t
  exact t
 have HEO:Hid (∀ W:World,(binOp .eql 29 (.agg (bv O).toArray) (.agg (bv O).toArray)).run Tryz.prog W = .ok (.bool true) W):=fun W=>by rw [NA Tryz.underlying29 HOL.out HOL.out W,decide_eq_true rfl]
 have hz:=iI
 obtain ⟨Z,hZ⟩ : ∃ Z,(bv (List.replicate 64 0)).toArray=Z:=⟨_,rfl⟩
 have hZs:Z.size=64:=by rw [←hZ];simp [bv]
 have HZS:Hid (Z.size=64):=hZs
 have HZE:Hid ((bv z64).toArray=Z):=hZ
 rw [hZ] at hz
 clear hZ hZs
 have hz8:=fg
 obtain ⟨Z8,hZ8⟩ : ∃ Z,(bv (List.replicate 80 0)).toArray=Z:=⟨_,rfl⟩
 have hZs8:Z8.size=80:=by rw [←hZ8];simp [bv]
 have HZ8:Hid (Z8.size=80):=hZs8
 rw [hZ8] at hz8
 clear hZ8 hZs8
 obtain ⟨A0,hA0⟩ : ∃ A,(bv s).toArray=A:=⟨_,rfl⟩
 rw [hA0]
 obtain ⟨U,hU⟩ : ∃ U,(w.alloc (.cells A0 22))=U:=⟨_,rfl⟩
 have sU:U.heap.size=w.heap.size+1:=by rw [←hU];simp
 have bU:Below w.heap.size w U:=by rw [←hU];exact ((Below.refl _ w).alloc (by first | exact Nat.le_refl _ | (simp only [World.size_alloc];omega)) _)
 have r0:U.rangeAt (w.heap.size) 0 (bv s):=fun j v hj=>by rw [Nat.zero_add,cell_of_row U _ j _ _ _ (show U.heap[w.heap.size]? = some (.cells A0 22 (0,0)) by rw [←hU];exact bP [.cells A0 22 (0,0)] w.heap 0 _ rfl),←hA0,List.getElem?_toArray];exact hj
 have BU:Hid (Below w.heap.size w U):=bU
 obtain ⟨D,hD⟩ : ∃ D,w.heap.size=D:=⟨_,rfl⟩
 have HD:Hid (w.heap.size=D):=hD
 rw [hD] at sU r0
 have RA:Hid (U.rangeAt (D) 0 (bv s)):=r0
 have LA:Hid (D<U.heap.size):=by show _<_;omega
 clear sU bU r0 hA0
 have HGU:Hid (Glo Ve.MA U):=hg.below BU.out
 clear hg hs hp hl hv hV hE hO hY hn0 hacc hor hYL
 go_enter Tryz.func5,Tryz.ntmps5
 go_upto_region 1 with (fail)
 try rw [hU]
 try rw [hD]
 clear hU hD
 go_upto_region 3 with (first
  | (go_at_call 8;refine (HAW.out U HGU.out).mono ?_;rintro e W0 ⟨rfl,g1⟩;have BW0:Hid (Below U.heap.size U W0):=g1;clear g1))
 have G0:Hid (Glo Ve.MA W0):=aB HGU.out BW0.out
 have RA0:Hid (W0.rangeAt (D) 0 (bv s)):=ae RA.out BW0.out LA.out
 have LA0:Hid (D<W0.heap.size):=Nat.lt_of_lt_of_le LA.out BW0.out.size
 clear RA LA
 have V0:Hid (Sl W0 (.slice a0 n0 c0) p):=HVW.out.below (Below.tr' BU.out BW0.out) (Nat.le_refl _)
 go_upto_region 4 with (first
  | (refine wpList_load_mid rfl 22 (.tmp 2) rfl (D) 0 rfl (bv s) _ RA0.out Tryz.underlying22 rfl (by rw [aa,HA.out.len];exact bf) ?_)
  | (go_at_call 9;refine (HPV.out W0 V0.out G0.out).mono ?_;rintro e W1 ⟨rfl,g1⟩;have BW1:Hid (Below W0.heap.size W0 W1):=g1;clear g1)
  | (refine wpList_store_mid rfl 25 (.tmp 5) (.tmp 17) rfl W1.heap.size 0 (bv Vp).toArray rfl rfl (dS W1 (HVL.out) HZ8.out) (aO (HVL.out) dR) (aI _) ?_;simp only [List.toList_toArray]))
 obtain ⟨e1,he1⟩ : ∃ n,W1.heap.size=n:=⟨_,rfl⟩
 obtain ⟨W6,hW6⟩ : ∃ W,(W1.alloc (.cells Z8 25)).setCells W1.heap.size 0 (bv Vp)=W:=⟨_,rfl⟩
 obtain ⟨l1,l2,l3⟩:=bN (by rw [aa,HVL.out,HZ8.out]) (by rw [aa,HVL.out];omega) hW6
 have BW6:Hid (Below W1.heap.size W1 W6):=l2
 have RV6:Hid (W6.rangeAt e1 0 (bv Vp)):=by rw [←he1];exact l1
 have LV6:Hid (e1<W6.heap.size):=by rw [←he1];exact l3
 try rw [hW6]
 try rw [he1]
 clear l1 l2 l3 hW6 he1
 have BA:Hid (Below W0.heap.size W0 W6):=Below.tr' BW1.out BW6.out
 have RA6:Hid (W6.rangeAt (D) 0 (bv s)):=ae RA0.out BA.out LA0.out
 have LA6:Hid (D<W6.heap.size):=Nat.lt_of_lt_of_le LA0.out BA.out.size
 clear RA0 LA0
 have HG6:Hid (Glo Ve.MA W6):=aB G0.out BA.out
 have B6:Hid (Below U.heap.size U W6):=Below.tr' BW0.out BA.out
 have BE:Hid (Below w.heap.size w W6):=Below.tr' BU.out B6.out
 have HV6:Hid (Sl W6 (.slice a0 n0 c0) p):=HVW.out.below BE.out (Nat.le_refl _)
 clear BW0 BW1 BW6 BA G0 V0
 rcases HOR.out with hor | hor
 ·subst hor
  clear HVF HOT HOR
  go_wp2_with (fail)
  go_ret
  exact ⟨rfl,BE.out⟩
 ·subst hor
  have HVF2:Hid (∀ W,Sl W (.slice a0 n0 c0) p→Glo Ve.MA W→Calls Tryz.prog 13 #[.agg (bv Y).toArray,.slice a0 n0 c0,.agg (bv Vp).toArray] W fun e w'=>e = .returned (.tuple #[.agg (bv O).toArray,.int .i64 0])∧Below W.heap.size W w'):=HVF.out rfl
  have HOT2:Hid (∀ W,Glo Ve.MA W→Calls Tryz.prog 11 #[.agg (bv Vp).toArray] W fun e w'=>e = .returned (.tuple #[.agg (bv O).toArray,.int .i64 0])∧Below W.heap.size W w'):=HOT.out rfl
  clear HVF HOT HOR
--@1
  go_upto_region 6 with (fail)
  refine RG.wp_rgn' (GI W6 (MP D e1 a0 n0 c0 s Y Vp O) (fun _ _ _=>True) [(8,9,bv O,bv z64)]) (by kernel_rfl) (by kernel_rfl) GI.start ?_ ?_
  ·refine ⟨?_,?_,?_,?_,?_,?_,?_,?_,?_,?_,?_,trivial⟩
   ·intro a W d V hI hd hpx hbk hf hp
    have hO':Below W6.heap.size W6 W:=hI.be
    have q2:a.eval (.tmp 2) = .pointer (some ⟨D,0,none⟩):=hf 2 rfl
    exact RU.ob_op rfl (RU.wanted_none rfl) (wp_load_mid 22 (.tmp 2) rfl (D) (0) q2 (bv s) _ (ae RA6.out hO' LA6.out) Tryz.underlying22 rfl (aM HA.out) ⟨_,rfl,hI.step (fun _ _ _ _ _ _=>trivial) (Below.refl _ _) 0 _ (by simp) (fun u hu=>by first | (cases hu;rfl) | cases hu) (trivial)⟩)
   ·intro a W d V hI hd hpx hbk hf hp
    have hO':Below W6.heap.size W6 W:=hI.be
    have e24:a.eval (.tmp 24) = .agg (bv s).toArray:=(hp 0 24 rfl).trans (hI.kn 0 _ rfl (hpx 0 rfl))
    have hno : ∀ x ∈ ([(8,9,bv O,bv z64)]:List Al),d x.2.1=false:=by simp only [List.mem_cons,List.not_mem_nil,or_false,forall_eq_or_imp,forall_eq];exact hbk 9 rfl
    refine RU.ob_call (g:=15) (args := #[.agg (bv s).toArray]) rfl (RU.wanted_none rfl) (fun ev he hc => ?_) ((HPB.out W).mono ?_)
    ·have h24:=(he (.tmp 24)).trans e24
     have hfn:=he (.func 15)
     simp only [qF,qD,qE,execOp,Option.map_some,Option.map_none]
     simp only [resolve,invoke,Sem.run_bind,Sem.run_pure,Result.andThen_ok,List.map_toArray,List.map_cons,List.map_nil,h24,hfn,Act.eval,hc]
     rfl
    ·rintro e' W2 ⟨rfl,hb2⟩
     exact ⟨_,rfl,⟨_,rfl,hI.step (fun _ _ _ _ _ _=>trivial) hb2 1 _ (by simp) (fun u hu=>by first | (cases hu;rfl) | cases hu) (trivial)⟩⟩
   ·intro a W d V hI hd hpx hbk hf hp
    have hO':Below W6.heap.size W6 W:=hI.be
    refine RU.ob_val (v := .slice a0 n0 c0) rfl (RU.wanted_none rfl) (fun ev he hc => ?_) ⟨_,rfl,hI.step (fun _ _ _ _ _ _=>trivial) (Below.refl _ _) 2 _ (by simp) (fun u hu=>by first | (cases hu;rfl) | cases hu) (trivial)⟩
    have q1:ev (.tmp 1) = .slice a0 n0 c0:=(he (.tmp 1)).trans (hf 1 rfl)
    simp only [qF,qD,qE,execOp,Option.map_some,Option.map_none];rw [q1]
    first | (go_simp;done) | (go_simp;rfl) | rfl
   ·intro a W d V hI hd hpx hbk hf hp
    have hO':Below W6.heap.size W6 W:=hI.be
    have q5:a.eval (.tmp 5) = .pointer (some ⟨e1,0,none⟩):=hf 5 rfl
    exact RU.ob_op rfl (RU.wanted_none rfl) (wp_load_mid 25 (.tmp 5) rfl (e1) (0) q5 (bv Vp) _ (ae RV6.out hO' LV6.out) Tryz.underlying25 rfl (eI HVL.out dR) ⟨_,rfl,hI.step (fun _ _ _ _ _ _=>trivial) (Below.refl _ _) 3 _ (by simp) (fun u hu=>by first | (cases hu;rfl) | cases hu) (trivial)⟩)
   ·intro a W d V hI hd hpx hbk hf hp
    have hO':Below W6.heap.size W6 W:=hI.be
    have e25:a.eval (.tmp 25) = .agg (bv Y).toArray:=(hp 1 25 rfl).trans (hI.kn 1 _ rfl (hpx 1 rfl))
    have e26:a.eval (.tmp 26) = .slice a0 n0 c0:=(hp 2 26 rfl).trans (hI.kn 2 _ rfl (hpx 2 rfl))
    have e27:a.eval (.tmp 27) = .agg (bv Vp).toArray:=(hp 3 27 rfl).trans (hI.kn 3 _ rfl (hpx 3 rfl))
    have hno : ∀ x ∈ ([(8,9,bv O,bv z64)]:List Al),d x.2.1=false:=by simp only [List.mem_cons,List.not_mem_nil,or_false,forall_eq_or_imp,forall_eq];exact hbk 9 rfl
    refine RU.ob_call (g:=13) (args := #[.agg (bv Y).toArray,.slice a0 n0 c0,.agg (bv Vp).toArray]) rfl (RU.wanted_none rfl) (fun ev he hc => ?_) ((HVF2.out W (HV6.out.below hO' (Nat.le_refl _)) (aB HG6.out hO')).mono ?_)
    ·have h25:=(he (.tmp 25)).trans e25
     have h26:=(he (.tmp 26)).trans e26
     have h27:=(he (.tmp 27)).trans e27
     have hfn:=he (.func 13)
     simp only [qF,qD,qE,execOp,Option.map_some,Option.map_none]
     simp only [resolve,invoke,Sem.run_bind,Sem.run_pure,Result.andThen_ok,List.map_toArray,List.map_cons,List.map_nil,h25,h26,h27,hfn,Act.eval,hc]
     rfl
    ·rintro e' W2 ⟨rfl,hb2⟩
     exact ⟨_,rfl,⟨_,rfl,hI.step (fun _ _ _ _ _ _=>trivial) hb2 4 _ (by simp) (fun u hu=>by first | (cases hu;rfl) | cases hu) (trivial)⟩⟩
   ·intro a W d V hI hd hpx hbk hf hp
    have hO':Below W6.heap.size W6 W:=hI.be
    refine RU.ob_val (v := .tuple #[.agg (bv O).toArray,.int .i64 0]) rfl (RU.wanted_none rfl) (fun ev he hc => ?_) ⟨_,rfl,hI.step (fun _ _ _ _ _ _=>trivial) (Below.refl _ _) 5 _ (by simp) (fun u hu=>by first | (cases hu;rfl) | cases hu) (trivial)⟩
    have q28:ev (.tmp 28) = .tuple #[.agg (bv O).toArray,.int .i64 0]:=(he (.tmp 28)).trans ((hp 4 28 rfl).trans (hI.kn 4 _ rfl (hpx 4 rfl)))
    simp only [qF,qD,qE,execOp,Option.map_some,Option.map_none];rw [q28]
    first | (go_simp;done) | (go_simp;rfl) | rfl
   ·intro a W d V hI hd hpx hbk hf hp
    have hO':Below W6.heap.size W6 W:=hI.be
    refine RU.ob_val (v := .agg (bv O).toArray) rfl (RU.wanted_none rfl) (fun ev he hc => ?_) ⟨_,rfl,hI.step (fun _ _ _ _ _ _=>trivial) (Below.refl _ _) 6 _ (by simp) (fun u hu=>by first | (cases hu;rfl) | cases hu) (trivial)⟩
    have q23:ev (.tmp 23) = .tuple #[.agg (bv O).toArray,.int .i64 0]:=(he (.tmp 23)).trans ((hp 5 23 rfl).trans (hI.kn 5 _ rfl (hpx 5 rfl)))
    simp only [qF,qD,qE,execOp,Option.map_some,Option.map_none];rw [q23]
    first | (go_simp;done) | (go_simp;rfl) | rfl
   ·intro a W d V hI hd hpx hbk hf hp
    have hO':Below W6.heap.size W6 W:=hI.be
    refine RU.ob_val (v := .int .i64 0) rfl (RU.wanted_none rfl) (fun ev he hc => ?_) ⟨_,rfl,hI.step (fun _ _ _ _ _ _=>trivial) (Below.refl _ _) 7 _ (by simp) (fun u hu=>by first | (cases hu;rfl) | cases hu) (trivial)⟩
    have q23:ev (.tmp 23) = .tuple #[.agg (bv O).toArray,.int .i64 0]:=(he (.tmp 23)).trans ((hp 5 23 rfl).trans (hI.kn 5 _ rfl (hpx 5 rfl)))
    simp only [qF,qD,qE,execOp,Option.map_some,Option.map_none];rw [q23]
    first | (go_simp;done) | (go_simp;rfl) | rfl
   ·intro a W d V hI hd hpx hbk hf hp
    have hO':Below W6.heap.size W6 W:=hI.be
    refine RU.ob_run (v := .pointer (some ⟨W.heap.size,0,none⟩)) (w':=W.alloc (.cells (bv z64).toArray 29)) rfl (RU.wanted_none rfl) (fun ev he hc => ?_) ⟨_,rfl,hI.alloc (fun _ _ _ _ _ _=>trivial) (8,9,bv O,bv z64) (by simp) 29 (hbk 9 rfl) (by simp) (by simp) rfl (fun _ _=>trivial)⟩
    simp only [qF,qD,qE,execOp]
    first | (go_simp;done) | (go_simp;rfl) | (go_simp;rw [HZE.out])
   ·intro a W d V hI hd hpx hbk hf hp
    have hO':Below W6.heap.size W6 W:=hI.be
    have d9:d 8=true:=hpx 8 rfl
    obtain ⟨b,hV,-,-,hth,-⟩:=hI.pt (8,9,bv O,bv z64) (by simp) d9
    have qp:a.eval (.tmp 7) = .pointer (some ⟨b,0,none⟩):=(hp 8 7 rfl).trans hV
    have qv:a.eval (.tmp 29) = .agg (bv O).toArray:=(hp 6 29 rfl).trans (hI.kn 6 _ rfl (hpx 6 rfl))
    exact RU.ob_op rfl (RU.wanted_none rfl) (wp_store_mid 29 (.tmp 7) (.tmp 29) rfl b 0 (bv O).toArray qp qv (by rw [List.size_toArray,(show (bv O).length=(bv z64).length by rw [aa,aa,HOL.out];rfl)];exact hth) (by rw [List.size_toArray];exact eI HOL.out bq) (aI _) ⟨_,rfl,by simp only [List.toList_toArray];exact hI.store (8,9,bv O,bv z64) (by simp) d9 hV _ (by simp) (by simp) rfl (show (bv O).length=(bv z64).length by rw [aa,aa,HOL.out];rfl) (by simp)⟩)
   ·intro a W d V hI hd hpx hbk hf hp
    have hO':Below W6.heap.size W6 W:=hI.be
    refine RU.ob_val (v := .int .i64 0) rfl (RU.wanted_none rfl) (fun ev he hc => ?_) ⟨_,rfl,hI.step (fun _ _ _ _ _ _=>trivial) (Below.refl _ _) 10 _ (by simp) (fun u hu=>by first | (cases hu;rfl) | cases hu) (trivial)⟩
    have q30:ev (.tmp 30) = .int .i64 0:=(he (.tmp 30)).trans ((hp 7 30 rfl).trans (hI.kn 7 _ rfl (hpx 7 rfl)))
    simp only [qF,qD,qE,execOp,Option.map_some,Option.map_none];rw [q30]
    first | (go_simp;done) | (go_simp;rfl) | rfl
  intro W7 dW7 VW7 hal hI
  have BW7:Hid (Below W6.heap.size W6 W7):=hI.be
  have hs0:VW7 0 = .agg (bv s).toArray:=hI.kn 0 _ rfl (hal 0 (by decide))
  have hs1:VW7 1 = .agg (bv Y).toArray:=hI.kn 1 _ rfl (hal 1 (by decide))
  have hs2:VW7 2 = .slice a0 n0 c0:=hI.kn 2 _ rfl (hal 2 (by decide))
  have hs3:VW7 3 = .agg (bv Vp).toArray:=hI.kn 3 _ rfl (hal 3 (by decide))
  have hs4:VW7 4 = .tuple #[.agg (bv O).toArray,.int .i64 0]:=hI.kn 4 _ rfl (hal 4 (by decide))
  have hs5:VW7 5 = .tuple #[.agg (bv O).toArray,.int .i64 0]:=hI.kn 5 _ rfl (hal 5 (by decide))
  have hs6:VW7 6 = .agg (bv O).toArray:=hI.kn 6 _ rfl (hal 6 (by decide))
  have hs7:VW7 7 = .int .i64 0:=hI.kn 7 _ rfl (hal 7 (by decide))
  obtain ⟨b8,hs8,hb8,hl8,-,hr8⟩:=hI.pt (8,9,bv O,bv z64) (by simp) (hal 8 (by decide))
  have hs8:VW7 8 = .pointer (some ⟨b8,0,none⟩):=hs8
  have R8W7:Hid (W7.rangeAt b8 0 (bv O)):=by have h9:dW7 9=true:=hal 9 (by decide);simp only [h9,if_true] at hr8;exact hr8
  have L8W7:Hid (b8<W7.heap.size):=hl8
  have G8W7:Hid (W6.heap.size≤b8):=hb8
  have hs10:VW7 10 = .int .i64 0:=hI.kn 10 _ rfl (hal 10 (by decide))
  simp only [RU.lay,Act.put,hs0,hs1,hs2,hs3,hs4,hs5,hs6,hs7,hs8,hs10]
  simp only [qA,qB,qC]
  clear hI hal hs0 hs1 hs2 hs3 hs4 hs5 hs6 hs7 hs8 hs10 hb8 hl8 hr8
  have RV6b:Hid (W7.rangeAt (e1) 0 (bv Vp)):=ae RV6.out BW7.out LV6.out
  have LV6b:Hid (e1<W7.heap.size):=Nat.lt_of_lt_of_le LV6.out BW7.out.size
  clear RV6 LV6
  have G7:Hid (Glo Ve.MA W7):=aB HG6.out BW7.out
  have B7:Hid (Below w.heap.size w W7):=Below.tr' BE.out BW7.out
--@2
  go_upto_region 8 with (first
   | (refine wpList_load_mid rfl 25 (.tmp 5) rfl (e1) 0 rfl (bv Vp) _ RV6b.out Tryz.underlying25 rfl (by rw [aa,HVL.out];exact dR) ?_)
   | (go_at_call 11;refine (HOT2.out W7 G7.out).mono ?_;rintro e W8 ⟨rfl,g1⟩;have BW8:Hid (Below W7.heap.size W7 W8):=g1;clear g1)
   | (refine wpList_store_mid rfl 29 (.tmp 9) (.tmp 34) rfl W8.heap.size 0 (bv O).toArray rfl rfl (dS W8 (HOL.out) HZS.out) (aO (HOL.out) bq) (aI _) ?_;simp only [List.toList_toArray]))
  obtain ⟨e9,he9⟩ : ∃ n,W8.heap.size=n:=⟨_,rfl⟩
  obtain ⟨W9,hW9⟩ : ∃ W,(W8.alloc (.cells Z 29)).setCells W8.heap.size 0 (bv O)=W:=⟨_,rfl⟩
  obtain ⟨l1,l2,l3⟩:=bN (by rw [aa,HOL.out,HZS.out]) (by rw [aa,HOL.out];omega) hW9
  have BW9:Hid (Below W8.heap.size W8 W9):=l2
  have R9:Hid (W9.rangeAt e9 0 (bv O)):=by rw [←he9];exact l1
  have L9:Hid (e9<W9.heap.size):=by rw [←he9];exact l3
  try rw [hW9]
  try rw [he9]
  clear l1 l2 l3 hW9 he9
  have BA:Hid (Below W7.heap.size W7 W9):=Below.tr' BW8.out BW9.out
  have R8b:Hid (W9.rangeAt b8 0 (bv O)):=ae R8W7.out BA.out L8W7.out
  have B9:Hid (Below w.heap.size w W9):=Below.tr' B7.out BA.out
--@3
  go_wp2_with (first
   | (refine rL rfl 29 (.tmp 7) rfl (b8) 0 rfl (bv O) _ R8b.out Tryz.underlying29 rfl (by rw [aa,HOL.out];exact bq) ?_)
   | (refine rL rfl 29 (.tmp 9) rfl (e9) 0 rfl (bv O) _ R9.out Tryz.underlying29 rfl (by rw [aa,HOL.out];exact bq) ?_)
   | (refine IQ .eql 29 29 (.tmp 43) (.tmp 44) rfl rfl _ _ (.bool true) rfl rfl (Hf _ _ _ _ _ W9) (HEO.out W9) ?_))
  go_ret
  exact ⟨rfl,B9.out⟩
end Go.Proofs.YtajehiidpecknaaGreatDoor.Wi
