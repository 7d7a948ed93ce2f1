/- EddsaVerifies, walked. -/
import Derived.Test.YtkhjnjlinfbfoaaGreatDoorVkE
import Derived.Test.YtkhjnjlinfbfoaaGreatDoorVhA
set_option linter.unusedSimpArgs false
set_option linter.unusedVariables false
namespace Go.Proofs.YtkhjnjlinfbfoaaGreatDoor.Wi
open Go Go.RowKit
set_option maxRecDepth 100000
def vl3f (a' r s:List Int) (v:Value) (E:Int):Nat→Option Value
 | 0=>some (.agg (bv a').toArray)
 | 1=>some (v)
 | 2=>some (.agg (bv (r ++ s)).toArray)
 | 3=>some (.int .i64 E)
 | 4=>some (.agg (bv a').toArray)
 | 5=>some (v)
 | 6=>some (.agg (bv (r ++ s)).toArray)
 | 7=>some (.int .i64 E)
 | 8=>some (.bool true)
 | 9=>some (.bool true)
 | _=>none
set_option maxHeartbeats 4000000 in
theorem verifies_any (a' p r s:List Int) (ha:L32 a') (hr:L32 r) (hs:L32 s) (hp:Byt p) (hl:p.length≤140737488353000) (v:Value) (w:World) (hv:Sl w v p) (hg:Glo Ve.MA w) :
  Calls Tryz.prog 3 #[.agg (bv a').toArray,v,.agg (bv (r ++ s)).toArray] w fun e w'=>e = .returned (.bool true)∧Below w.heap.size w w':=by
 have HA:Hid (L32 a'):=ha
 have HR:Hid (L32 r):=hr
 have HS:Hid (L32 s):=hs
 obtain ⟨E,hE⟩ : ∃ E,vfE a' p r s=E:=⟨_,rfl⟩
 have HV3:Hid (∀ W,Sl W v p→Glo Ve.MA W→Calls Tryz.prog 6 #[.agg (bv a').toArray,v,.agg (bv (r ++ s)).toArray] W fun e w'=>e = .returned (.int .i64 E)∧Below W.heap.size W w'):=fun W h1 h2=>by rw [←hE];exact verify_any a' p r s ha hr hs hp hl v W h1 h2
 have HV7:Hid (∀ W,Sl W v p→Calls Tryz.prog 7 #[.agg (bv a').toArray,v,.agg (bv (r ++ s)).toArray] W fun e w'=>e = .returned (.int .i64 E)∧Below W.heap.size W w'):=fun W h1=>by rw [←hE];exact rverify_any a' p r s ha hr hs hp hl v W h1
 have ra:=range_alloc w (bv a') 22 (0,0)
 have rg:=range_alloc (w.alloc (.cells (bv a').toArray 22)) (bv (r ++ s)) 24 (0,0)
 obtain ⟨A,hA⟩ : ∃ A,(bv a').toArray=A:=⟨_,rfl⟩
 obtain ⟨G,hG⟩ : ∃ G,(bv (r ++ s)).toArray=G:=⟨_,rfl⟩
 rw [hA] at ra rg ⊢
 rw [hG] at rg ⊢
 obtain ⟨U,hU⟩ : ∃ U,(w.alloc (.cells A 22)).alloc (.cells G 24)=U:=⟨_,rfl⟩
 have sU:U.heap.size=w.heap.size+2:=by rw [←hU];simp
 have bU:Below w.heap.size w U:=by rw [←hU];exact ((Below.refl _ w).alloc (Nat.le_refl _) _).alloc (by simp) _
 have rp:U.rangeAt w.heap.size 0 (bv a'):=by rw [←hU];exact range_below ra ((Below.refl _ _).alloc (Nat.le_refl _) _) (by simp)
 have rq:U.rangeAt (w.heap.size+1) 0 (bv (r ++ s)):=by rw [←hU];have:=rg;rw [show (w.alloc (.cells A 22)).heap.size=w.heap.size+1 by simp] at this;exact this
 have BU:Hid (Below w.heap.size w U):=bU
 have HVU:Hid (Sl U v p):=hv.below bU (Nat.le_refl _)
 have HGU:Hid (Glo Ve.MA U):=hg.below bU
 obtain ⟨D,hD⟩ : ∃ D,w.heap.size=D:=⟨_,rfl⟩
 have HD:Hid (w.heap.size=D):=hD
 rw [hD] at sU rp rq
 have RP:Hid (U.rangeAt D 0 (bv a')):=rp
 have RQ:Hid (U.rangeAt (D+1) 0 (bv (r ++ s))):=rq
 have hDU:Hid (D+1<U.heap.size):=by show D+1<_;omega
 clear ra rg bU rp rq hA hG ha hr hs hp hv hg sU hE hl
 go_enter Tryz.func3,Tryz.ntmps3
 go_upto_region 1 with (fail)
 try rw [hU]
 try rw [hD]
 clear hU hD
 go_upto_region 3 with (go_at_call 5;refine (Ve.awake_any U HGU.out).mono ?_;rintro e W1 ⟨rfl,g1⟩;have B1:Hid (Below U.heap.size U W1):=g1;clear g1)
 have HG1:Hid (Glo Ve.MA W1):=glo_below HGU.out B1.out
 have HV1:Hid (Sl W1 v p):=HVU.out.below B1.out (Nat.le_refl _)
 have RP1:Hid (W1.rangeAt D 0 (bv a')):=range_below RP.out B1.out (by have:=hDU.out;omega)
 have RQ1:Hid (W1.rangeAt (D+1) 0 (bv (r ++ s))):=range_below RQ.out B1.out hDU.out
 have hD1:Hid (D+1<W1.heap.size):=Nat.lt_of_lt_of_le hDU.out B1.out.size
 refine RG.wp_rgn' (GI W1 (vl3f a' r s v E) (fun _ _ _=>True) []) (by kernel_rfl) (by kernel_rfl) GI.start ?_ ?_
 ·refine ⟨?_,?_,?_,?_,?_,?_,?_,?_,?_,?_,trivial⟩
  ·intro a W d V hI hd hpx hbk hf hp
   have hO':Below W1.heap.size W1 W:=hI.be
   have q3:a.eval (.tmp 3) = .pointer (some ⟨D,0,none⟩):=hf 3 rfl
   exact RU.ob_op rfl (RU.wanted_none rfl) (wp_load_mid 22 (.tmp 3) rfl (D) (0) q3 (bv a') _ (range_below RP1.out hO' (by have:=hD1.out;omega)) Tryz.underlying22 rfl (size_l32 HA.out) ⟨_,rfl,hI.step (fun _ _ _ _ _ _=>trivial) (Below.refl _ _) 0 _ (by simp) (fun u hu=>by first | (cases hu;rfl) | cases hu) (trivial)⟩)
  ·intro a W d V hI hd hpx hbk hf hp
   have hO':Below W1.heap.size W1 W:=hI.be
   refine RU.ob_val (v:=v) rfl (RU.wanted_none rfl) (fun ev he hc => ?_) ⟨_,rfl,hI.step (fun _ _ _ _ _ _=>trivial) (Below.refl _ _) 1 _ (by simp) (fun u hu=>by first | (cases hu;rfl) | cases hu) (trivial)⟩
   have q1:ev (.tmp 1)=v:=(he (.tmp 1)).trans (hf 1 rfl)
   simp only [List.getElem_toArray,List.getElem_cons_succ,List.getElem_cons_zero,execOp,Option.map_some,Option.map_none];rw [q1]
   first | (go_simp;done) | (go_simp;rfl) | rfl
  ·intro a W d V hI hd hpx hbk hf hp
   have hO':Below W1.heap.size W1 W:=hI.be
   have q5:a.eval (.tmp 5) = .pointer (some ⟨D+1,0,none⟩):=hf 5 rfl
   exact RU.ob_op rfl (RU.wanted_none rfl) (wp_load_mid 24 (.tmp 5) rfl (D+1) (0) q5 (bv (r ++ s)) _ (range_below RQ1.out hO' hD1.out) Tryz.underlying24 rfl ((by rw [bv_length,List.length_append,HR.out.len,HS.out.len];exact size64)) ⟨_,rfl,hI.step (fun _ _ _ _ _ _=>trivial) (Below.refl _ _) 2 _ (by simp) (fun u hu=>by first | (cases hu;rfl) | cases hu) (trivial)⟩)
  ·intro a W d V hI hd hpx hbk hf hp
   have hO':Below W1.heap.size W1 W:=hI.be
   have e9:a.eval (.tmp 9) = .agg (bv a').toArray:=(hp 0 9 rfl).trans (hI.kn 0 _ rfl (hpx 0 rfl))
   have e10:a.eval (.tmp 10)=v:=(hp 1 10 rfl).trans (hI.kn 1 _ rfl (hpx 1 rfl))
   have e11:a.eval (.tmp 11) = .agg (bv (r ++ s)).toArray:=(hp 2 11 rfl).trans (hI.kn 2 _ rfl (hpx 2 rfl))
   have hno : ∀ x ∈ ([]:List Al),d x.2.1=false:=by simp
   refine RU.ob_call (g:=6) (args := #[.agg (bv a').toArray,v,.agg (bv (r ++ s)).toArray]) rfl (RU.wanted_none rfl) (fun ev he hc => ?_) ((HV3.out W (HV1.out.below hO' (Nat.le_refl _)) (glo_below HG1.out hO')).mono ?_)
   ·have h9:=(he (.tmp 9)).trans e9
    have h10:=(he (.tmp 10)).trans e10
    have h11:=(he (.tmp 11)).trans e11
    have hfn:=he (.func 6)
    simp only [List.getElem_toArray,List.getElem_cons_succ,List.getElem_cons_zero,execOp,Option.map_some,Option.map_none]
    simp only [resolve,invoke,Sem.run_bind,Sem.run_pure,Result.andThen_ok,List.map_toArray,List.map_cons,List.map_nil,h9,h10,h11,hfn,Act.eval,hc]
    rfl
   ·rintro e' W2 ⟨rfl,hb2⟩
    exact ⟨_,rfl,⟨_,rfl,hI.step (fun _ _ _ _ _ _=>trivial) hb2 3 _ (by simp) (fun u hu=>by first | (cases hu;rfl) | cases hu) (trivial)⟩⟩
  ·intro a W d V hI hd hpx hbk hf hp
   have hO':Below W1.heap.size W1 W:=hI.be
   have q3:a.eval (.tmp 3) = .pointer (some ⟨D,0,none⟩):=hf 3 rfl
   exact RU.ob_op rfl (RU.wanted_none rfl) (wp_load_mid 22 (.tmp 3) rfl (D) (0) q3 (bv a') _ (range_below RP1.out hO' (by have:=hD1.out;omega)) Tryz.underlying22 rfl (size_l32 HA.out) ⟨_,rfl,hI.step (fun _ _ _ _ _ _=>trivial) (Below.refl _ _) 4 _ (by simp) (fun u hu=>by first | (cases hu;rfl) | cases hu) (trivial)⟩)
  ·intro a W d V hI hd hpx hbk hf hp
   have hO':Below W1.heap.size W1 W:=hI.be
   refine RU.ob_val (v:=v) rfl (RU.wanted_none rfl) (fun ev he hc => ?_) ⟨_,rfl,hI.step (fun _ _ _ _ _ _=>trivial) (Below.refl _ _) 5 _ (by simp) (fun u hu=>by first | (cases hu;rfl) | cases hu) (trivial)⟩
   have q1:ev (.tmp 1)=v:=(he (.tmp 1)).trans (hf 1 rfl)
   simp only [List.getElem_toArray,List.getElem_cons_succ,List.getElem_cons_zero,execOp,Option.map_some,Option.map_none];rw [q1]
   first | (go_simp;done) | (go_simp;rfl) | rfl
  ·intro a W d V hI hd hpx hbk hf hp
   have hO':Below W1.heap.size W1 W:=hI.be
   have q5:a.eval (.tmp 5) = .pointer (some ⟨D+1,0,none⟩):=hf 5 rfl
   exact RU.ob_op rfl (RU.wanted_none rfl) (wp_load_mid 24 (.tmp 5) rfl (D+1) (0) q5 (bv (r ++ s)) _ (range_below RQ1.out hO' hD1.out) Tryz.underlying24 rfl ((by rw [bv_length,List.length_append,HR.out.len,HS.out.len];exact size64)) ⟨_,rfl,hI.step (fun _ _ _ _ _ _=>trivial) (Below.refl _ _) 6 _ (by simp) (fun u hu=>by first | (cases hu;rfl) | cases hu) (trivial)⟩)
  ·intro a W d V hI hd hpx hbk hf hp
   have hO':Below W1.heap.size W1 W:=hI.be
   have e13:a.eval (.tmp 13) = .agg (bv a').toArray:=(hp 4 13 rfl).trans (hI.kn 4 _ rfl (hpx 4 rfl))
   have e14:a.eval (.tmp 14)=v:=(hp 5 14 rfl).trans (hI.kn 5 _ rfl (hpx 5 rfl))
   have e15:a.eval (.tmp 15) = .agg (bv (r ++ s)).toArray:=(hp 6 15 rfl).trans (hI.kn 6 _ rfl (hpx 6 rfl))
   have hno : ∀ x ∈ ([]:List Al),d x.2.1=false:=by simp
   refine RU.ob_call (g:=7) (args := #[.agg (bv a').toArray,v,.agg (bv (r ++ s)).toArray]) rfl (RU.wanted_none rfl) (fun ev he hc => ?_) ((HV7.out W (HV1.out.below hO' (Nat.le_refl _))).mono ?_)
   ·have h13:=(he (.tmp 13)).trans e13
    have h14:=(he (.tmp 14)).trans e14
    have h15:=(he (.tmp 15)).trans e15
    have hfn:=he (.func 7)
    simp only [List.getElem_toArray,List.getElem_cons_succ,List.getElem_cons_zero,execOp,Option.map_some,Option.map_none]
    simp only [resolve,invoke,Sem.run_bind,Sem.run_pure,Result.andThen_ok,List.map_toArray,List.map_cons,List.map_nil,h13,h14,h15,hfn,Act.eval,hc]
    rfl
   ·rintro e' W2 ⟨rfl,hb2⟩
    exact ⟨_,rfl,⟨_,rfl,hI.step (fun _ _ _ _ _ _=>trivial) hb2 7 _ (by simp) (fun u hu=>by first | (cases hu;rfl) | cases hu) (trivial)⟩⟩
  ·intro a W d V hI hd hpx hbk hf hp
   have hO':Below W1.heap.size W1 W:=hI.be
   refine RU.ob_val (v := .bool true) rfl (RU.wanted_none rfl) (fun ev he hc => ?_) ⟨_,rfl,hI.step (fun _ _ _ _ _ _=>trivial) (Below.refl _ _) 8 _ (by simp) (fun u hu=>by first | (cases hu;rfl) | cases hu) (trivial)⟩
   have q12:ev (.tmp 12) = .int .i64 E:=(he (.tmp 12)).trans ((hp 3 12 rfl).trans (hI.kn 3 _ rfl (hpx 3 rfl)))
   have q16:ev (.tmp 16) = .int .i64 E:=(he (.tmp 16)).trans ((hp 7 16 rfl).trans (hI.kn 7 _ rfl (hpx 7 rfl)))
   simp only [List.getElem_toArray,List.getElem_cons_succ,List.getElem_cons_zero,execOp,Option.map_some,Option.map_none];rw [q12,q16]
   first | (go_simp;done) | (go_simp;rfl) | rfl
  ·intro a W d V hI hd hpx hbk hf hp
   have hO':Below W1.heap.size W1 W:=hI.be
   refine RU.ob_val (v := .bool true) rfl (RU.wanted_none rfl) (fun ev he hc => ?_) ⟨_,rfl,hI.step (fun _ _ _ _ _ _=>trivial) (Below.refl _ _) 9 _ (by simp) (fun u hu=>by first | (cases hu;rfl) | cases hu) (trivial)⟩
   have q17:ev (.tmp 17) = .bool true:=(he (.tmp 17)).trans ((hp 8 17 rfl).trans (hI.kn 8 _ rfl (hpx 8 rfl)))
   simp only [List.getElem_toArray,List.getElem_cons_succ,List.getElem_cons_zero,execOp,Option.map_some,Option.map_none];rw [q17]
   first | (go_simp;done) | (go_simp;rfl) | rfl
 intro W2 dW2 VW2 hal hI
 have BW2:Hid (Below W1.heap.size W1 W2):=hI.be
 have hs0:VW2 0 = .agg (bv a').toArray:=hI.kn 0 _ rfl (hal 0 (by decide))
 have hs1:VW2 1=v:=hI.kn 1 _ rfl (hal 1 (by decide))
 have hs2:VW2 2 = .agg (bv (r ++ s)).toArray:=hI.kn 2 _ rfl (hal 2 (by decide))
 have hs3:VW2 3 = .int .i64 E:=hI.kn 3 _ rfl (hal 3 (by decide))
 have hs4:VW2 4 = .agg (bv a').toArray:=hI.kn 4 _ rfl (hal 4 (by decide))
 have hs5:VW2 5=v:=hI.kn 5 _ rfl (hal 5 (by decide))
 have hs6:VW2 6 = .agg (bv (r ++ s)).toArray:=hI.kn 6 _ rfl (hal 6 (by decide))
 have hs7:VW2 7 = .int .i64 E:=hI.kn 7 _ rfl (hal 7 (by decide))
 have hs8:VW2 8 = .bool true:=hI.kn 8 _ rfl (hal 8 (by decide))
 have hs9:VW2 9 = .bool true:=hI.kn 9 _ rfl (hal 9 (by decide))
 simp only [RU.lay,Act.put,hs0,hs1,hs2,hs3,hs4,hs5,hs6,hs7,hs8,hs9]
 simp only [List.setIfInBounds_toArray,List.set_cons_succ,List.set_cons_zero]
 clear hI hal hs0 hs1 hs2 hs3 hs4 hs5 hs6 hs7 hs8 hs9
 have BW9:Hid (Below w.heap.size w W2):=(BU.out.trans (B1.out.mono BU.out.size)).trans (BW2.out.mono (Nat.le_trans BU.out.size B1.out.size))
 go_wp2_with fail
 go_ret
 exact ⟨rfl,BW9.out⟩
end Go.Proofs.YtkhjnjlinfbfoaaGreatDoor.Wi
