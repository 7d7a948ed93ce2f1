/- EddsaTurned, walked. -/
import Derived.Test.YtkhjnjlinfbfoaaGreatDoorVkG
import Derived.Test.YtkhjnjlinfbfoaaGreatDoorVhA
set_option linter.unusedSimpArgs false
set_option linter.unusedVariables false
namespace Go.Proofs.YtkhjnjlinfbfoaaGreatDoor.Wi
open Go Go.RowKit
set_option maxRecDepth 100000
def z64:List Int:=List.replicate 64 0
def sgR (s p:List Int):List Int:=Bs (hd [Ve.pf s,p])
def sgT (s p:List Int):List Int:=mu (hd [sgR s p,Bs (Ve.sk s),p]) (Ve.sk s) (hd [Ve.pf s,p])
def sg (s p:List Int):List Int:=sgR s p ++ sgT s p
theorem sg_len (s p:List Int):(sg s p).length=64:=by
 unfold sg sgR sgT;rw [List.length_append,(L32.bs _).len,(L32.mu _ _ _).len]
theorem sg_byt (s p:List Int):Byt (sg s p):=(L32.bs _).byt.append (L32.mu _ _ _).byt
theorem rsign_sl (s p:List Int) (hs:L32 s) (hp:Byt p) (hl:p.length≤140737488353000) (v:Value) (w:World) (hv:Sl w v p) :
  Calls Tryz.prog 9 #[.agg (bv s).toArray,v] w fun e w'=>e = .returned (.agg (bv (sg s p)).toArray)∧Below w.heap.size w w':=by
 refine (rsign_any s p hs hp hl v w hv).mono ?_
 rintro e w' ⟨r,t,h1,h2,rfl,rfl,rfl,hb⟩
 exact ⟨rfl,hb⟩
theorem halves64 {x:List Int} (hl:x.length=64) (hb:Byt x) : ∃ r t,L32 r∧L32 t∧x=r ++ t :=
 ⟨x.take 32,x.drop 32,⟨by rw [List.length_take,hl];rfl,fun z hz=>hb z (List.mem_of_mem_take hz)⟩,⟨by rw [List.length_drop,hl],fun z hz=>hb z (List.mem_of_mem_drop hz)⟩,(List.take_append_drop 32 x).symm⟩
theorem byt_set {x:List Int} (h:Byt x) (i:Nat) {z:Int} (hz:0≤z∧z≤255):Byt (x.set i z):=fun y hy=>by
 rcases List.mem_or_eq_of_mem_set hy with hy | rfl
 ·exact h y hy
 ·exact hz
theorem run_rem (P:Program) (t:TypeId) (x y:Operand) (m n:Nat) (W:World) (h:0<n) :
  (do let __do_lift ← (do eqGuard .rem t x y (.int .i64 (m:Int)) (.int .i64 (n:Int));binOp .rem t (.int .i64 (m:Int)) (.int .i64 (n:Int)));pure (Next.value __do_lift):Sem Next).run P W = .ok (.value (.int .i64 ((m:Int) % (n:Int)))) W:=by
 have h2:(m:Int).tmod (n:Int)=(m:Int) % (n:Int):=Int.tmod_eq_emod_of_nonneg (by omega)
 simp [eqGuard,binOp,Op.intDiv,h2]
 intro e;omega
theorem u64_nn (ax:Int):0≤IntKind.u64.wrap ax:=by
 unfold IntKind.wrap;simp only [IntKind.signed,Bool.false_and,Bool.false_eq_true,if_false];exact Int.emod_nonneg _ (by decide)
theorem rem_at (ax:Int) : ∃ m:Nat,m<512∧wrap64 ((IntKind.u64.wrap ax).tmod 512)=(m:Int):=by
 have h0:=u64_nn ax
 rw [Int.tmod_eq_emod_of_nonneg h0]
 refine ⟨(IntKind.u64.wrap ax % 512).toNat,by omega,?_⟩
 unfold Go.RowKit.wrap64;omega
theorem rem_wh (ax:Int):wrap64 ((IntKind.u64.wrap ax).tmod 3)=0∨wrap64 ((IntKind.u64.wrap ax).tmod 3)=1∨wrap64 ((IntKind.u64.wrap ax).tmod 3)=2:=by
 have h0:=u64_nn ax
 rw [Int.tmod_eq_emod_of_nonneg h0];unfold Go.RowKit.wrap64;omega
def Pk (b5 b6:Nat) (v:Value) (W1 W4 W9:World):Prop :=
 ∃ A' r' t' p',L32 A'∧L32 r'∧L32 t'∧Byt p'∧p'.length≤140737488353000∧W9.rangeAt b5 0 (bv A')∧W9.rangeAt b6 0 (bv (r' ++ t'))∧Sl W9 v p'∧Below W1.heap.size W1 W9∧W4.heap.size≤W9.heap.size
def vt8Ω (U:World) (g j:Nat) (z:Int):Nat→(Nat→Value)→World→Prop
 | 0,_,W=>Below U.heap.size U W
 | _+1,_,W => ∃ W0,Below U.heap.size U W0∧W=W0.setCell ⟨g,j,none⟩ (.int .u8 z)
def vt8f (p:List Int) (m j g cap:Nat):Nat→Value
 | 0 => .slice (some ⟨g,0,none⟩) p.length cap
 | 1 => .int .i64 (m:Int)
 | 2 => .slice (some ⟨g,0,none⟩) p.length cap
 | 3 => .int .i64 (p.length:Int)
 | 4 => .int .i64 (j:Int)
 | 5 => .slice (some ⟨g,0,none⟩) p.length cap
 | 6 => .int .i64 (m:Int)
 | 7 => .slice (some ⟨g,0,none⟩) p.length cap
 | 8 => .int .i64 (p.length:Int)
 | 9 => .int .i64 (j:Int)
 | 10 => .pointer (some ⟨g,j,none⟩)
 | 11 => .int .u8 (gi p j)
 | 12 => .int .u8 (bits .xor .u8 (gi p j) 1)
 | 13 => .pointer (some ⟨g,j,none⟩)
 | 14=>undef
 | _=>undef
def vt13f (A' r' t':List Int) (v11:Value) (E:Int):Nat→Option Value
 | 0=>some (.agg (bv A').toArray)
 | 1=>some (v11)
 | 2=>some (.agg (bv (r' ++ t')).toArray)
 | 3=>some (.int .i64 E)
 | 4=>some (.agg (bv A').toArray)
 | 5=>some (v11)
 | 6=>some (.agg (bv (r' ++ t')).toArray)
 | 7=>some (.int .i64 E)
 | 8=>some (.bool true)
 | 9=>some (.bool true)
 | _=>none
def vt3f (s A2 G:List Int) (v:Value):Nat→Option Value
 | 0=>some (.agg (bv s).toArray)
 | 1=>some (.agg (bv A2).toArray)
 | 2=>some (.agg (bv s).toArray)
 | 3=>some (v)
 | 4=>some (.agg (bv G).toArray)
 | _=>none
set_option maxHeartbeats 8000000 in
theorem turned_any (s p:List Int) (hs:L32 s) (hp:Byt p) (hl:p.length≤140737488352000) (v:Value) (wh ax:Int) (hwh : -9223372036854775808≤wh∧wh≤9223372036854775807) (hax : -9223372036854775808≤ax∧ax≤9223372036854775807) (w:World) (hv:Sl w v p) (hg:Glo Ve.MA w) :
  Calls Tryz.prog 4 #[.agg (bv s).toArray,v,.int .i64 wh,.int .i64 ax] w fun e w'=>e = .returned (.bool true)∧Below w.heap.size w w':=by
 have HS:Hid (L32 s):=hs
 have HP:Hid (Byt p):=hp
 have HPL:Hid (p.length≤140737488352000):=hl
 obtain ⟨A2,hA2⟩ : ∃ A,Bs (Ve.sk s)=A:=⟨_,rfl⟩
 have HA2:Hid (L32 A2):=by rw [←hA2];exact L32.bs _
 obtain ⟨G,hGe⟩ : ∃ G,sg s p=G:=⟨_,rfl⟩
 have HGL:Hid (G.length=64):=by rw [←hGe];exact sg_len _ _
 have HGB:Hid (Byt G):=by rw [←hGe];exact sg_byt _ _
 have HPU:Hid (∀ W,Calls Tryz.prog 8 #[.agg (bv s).toArray] W fun e w'=>e = .returned (.agg (bv A2).toArray)∧Below W.heap.size W w'):=fun W=>by rw [←hA2];exact rpub_any s hs W
 have HSI:Hid (∀ W,Sl W v p→Calls Tryz.prog 9 #[.agg (bv s).toArray,v] W fun e w'=>e = .returned (.agg (bv G).toArray)∧Below W.heap.size W w'):=fun W h=>by rw [←hGe];exact rsign_sl s p hs hp (by omega) v W h
 have ra:=range_alloc w (bv s) 22 (0,0)
 obtain ⟨A,hA⟩ : ∃ A,(bv s).toArray=A:=⟨_,rfl⟩
 rw [hA] at ra ⊢
 obtain ⟨U,hU⟩ : ∃ U,w.alloc (.cells A 22)=U:=⟨_,rfl⟩
 have bU:Below w.heap.size w U:=by rw [←hU];exact (Below.refl _ w).alloc (Nat.le_refl _) _
 have sU:w.heap.size<U.heap.size:=by rw [←hU];simp
 rw [hU] at ra
 have BU:Hid (Below w.heap.size w U):=bU
 have HVU:Hid (Sl U v p):=hv.below bU (Nat.le_refl _)
 have HGU:Hid (Glo Ve.MA U):=hg.below bU
 obtain ⟨D,hD⟩ : ∃ D,w.heap.size=D:=⟨_,rfl⟩
 have HD:Hid (w.heap.size=D):=hD
 rw [hD] at sU ra
 have RP:Hid (U.rangeAt D 0 (bv s)):=ra
 have hDU:Hid (D<U.heap.size):=sU
 have HWH:Hid (-9223372036854775808≤wh∧wh≤9223372036854775807):=hwh
 have HAX:Hid (-9223372036854775808≤ax∧ax≤9223372036854775807):=hax
 clear ra bU sU hA hA2 hGe hs hp hl hv hg hwh hax
 go_enter Tryz.func4,Tryz.ntmps4
 go_upto_region 1 with (fail)
 try rw [hU]
 try rw [hD]
 clear hU hD
 go_upto_region 3 with (go_at_call 5;refine (Ve.awake_any U HGU.out).mono ?_;rintro e W1 ⟨rfl,g1⟩;have B1:Hid (Below U.heap.size U W1):=g1;clear g1)
 have HG1:Hid (Glo Ve.MA W1):=glo_below HGU.out B1.out
 have HV1:Hid (Sl W1 v p):=HVU.out.below B1.out (Nat.le_refl _)
 have RP1:Hid (W1.rangeAt D 0 (bv s)):=range_below RP.out B1.out hDU.out
 have hD1:Hid (D<W1.heap.size):=Nat.lt_of_lt_of_le hDU.out B1.out.size
 refine RG.wp_rgn' (GI W1 (vt3f s A2 G v) (fun _ _ _=>True) [(5,7,bv A2,bv z32),(6,8,bv G,bv z64)]) (by kernel_rfl) (by kernel_rfl) GI.start ?_ ?_
 ·refine ⟨?_,?_,?_,?_,?_,?_,?_,?_,?_,trivial⟩
  ·intro a W d V hI hd hpx hbk hf hp
   have hO':Below W1.heap.size W1 W:=hI.be
   have q4:a.eval (.tmp 4) = .pointer (some ⟨D,0,none⟩):=hf 4 rfl
   exact RU.ob_op rfl (RU.wanted_none rfl) (wp_load_mid 22 (.tmp 4) rfl (D) (0) q4 (bv s) _ (range_below RP1.out hO' hD1.out) Tryz.underlying22 rfl (size_l32 HS.out) ⟨_,rfl,hI.step (fun _ _ _ _ _ _=>trivial) (Below.refl _ _) 0 _ (by simp) (fun u hu=>by first | (cases hu;rfl) | cases hu) (trivial)⟩)
  ·intro a W d V hI hd hpx hbk hf hp
   have hO':Below W1.heap.size W1 W:=hI.be
   have e14:a.eval (.tmp 14) = .agg (bv s).toArray:=(hp 0 14 rfl).trans (hI.kn 0 _ rfl (hpx 0 rfl))
   have hno : ∀ x ∈ ([(5,7,bv A2,bv z32),(6,8,bv G,bv z64)]:List Al),d x.2.1=false:=by simp only [List.mem_cons,List.not_mem_nil,or_false,forall_eq_or_imp,forall_eq];exact ⟨hbk 7 rfl,hbk 8 rfl⟩
   refine RU.ob_call (g:=8) (args := #[.agg (bv s).toArray]) rfl (RU.wanted_none rfl) (fun ev he hc => ?_) ((HPU.out W).mono ?_)
   ·have h14:=(he (.tmp 14)).trans e14
    have hfn:=he (.func 8)
    simp only [qF,qD,qE,execOp,Option.map_some,Option.map_none]
    simp only [resolve,invoke,Sem.run_bind,Sem.run_pure,Result.andThen_ok,List.map_toArray,List.map_cons,List.map_nil,h14,hfn,Act.eval,hc]
    rfl
   ·rintro e' W2 ⟨rfl,hb2⟩
    exact ⟨_,rfl,⟨_,rfl,hI.step (fun _ _ _ _ _ _=>trivial) hb2 1 _ (by simp) (fun u hu=>by first | (cases hu;rfl) | cases hu) (trivial)⟩⟩
  ·intro a W d V hI hd hpx hbk hf hp
   have hO':Below W1.heap.size W1 W:=hI.be
   have q4:a.eval (.tmp 4) = .pointer (some ⟨D,0,none⟩):=hf 4 rfl
   exact RU.ob_op rfl (RU.wanted_none rfl) (wp_load_mid 22 (.tmp 4) rfl (D) (0) q4 (bv s) _ (range_below RP1.out hO' hD1.out) Tryz.underlying22 rfl (size_l32 HS.out) ⟨_,rfl,hI.step (fun _ _ _ _ _ _=>trivial) (Below.refl _ _) 2 _ (by simp) (fun u hu=>by first | (cases hu;rfl) | cases hu) (trivial)⟩)
  ·intro a W d V hI hd hpx hbk hf hp
   have hO':Below W1.heap.size W1 W:=hI.be
   refine RU.ob_val (v:=v) rfl (RU.wanted_none rfl) (fun ev he hc => ?_) ⟨_,rfl,hI.step (fun _ _ _ _ _ _=>trivial) (Below.refl _ _) 3 _ (by simp) (fun u hu=>by first | (cases hu;rfl) | cases hu) (trivial)⟩
   have q1:ev (.tmp 1)=v:=(he (.tmp 1)).trans (hf 1 rfl)
   simp only [qF,qD,qE,execOp,Option.map_some,Option.map_none];rw [q1]
   first | (go_simp;done) | (go_simp;rfl) | rfl
  ·intro a W d V hI hd hpx hbk hf hp
   have hO':Below W1.heap.size W1 W:=hI.be
   have e16:a.eval (.tmp 16) = .agg (bv s).toArray:=(hp 2 16 rfl).trans (hI.kn 2 _ rfl (hpx 2 rfl))
   have e17:a.eval (.tmp 17)=v:=(hp 3 17 rfl).trans (hI.kn 3 _ rfl (hpx 3 rfl))
   have hno : ∀ x ∈ ([(5,7,bv A2,bv z32),(6,8,bv G,bv z64)]:List Al),d x.2.1=false:=by simp only [List.mem_cons,List.not_mem_nil,or_false,forall_eq_or_imp,forall_eq];exact ⟨hbk 7 rfl,hbk 8 rfl⟩
   refine RU.ob_call (g:=9) (args := #[.agg (bv s).toArray,v]) rfl (RU.wanted_none rfl) (fun ev he hc => ?_) ((HSI.out W (HV1.out.below hO' (Nat.le_refl _))).mono ?_)
   ·have h16:=(he (.tmp 16)).trans e16
    have h17:=(he (.tmp 17)).trans e17
    have hfn:=he (.func 9)
    simp only [qF,qD,qE,execOp,Option.map_some,Option.map_none]
    simp only [resolve,invoke,Sem.run_bind,Sem.run_pure,Result.andThen_ok,List.map_toArray,List.map_cons,List.map_nil,h16,h17,hfn,Act.eval,hc]
    rfl
   ·rintro e' W2 ⟨rfl,hb2⟩
    exact ⟨_,rfl,⟨_,rfl,hI.step (fun _ _ _ _ _ _=>trivial) hb2 4 _ (by simp) (fun u hu=>by first | (cases hu;rfl) | cases hu) (trivial)⟩⟩
  ·intro a W d V hI hd hpx hbk hf hp
   have hO':Below W1.heap.size W1 W:=hI.be
   refine RU.ob_run (v := .pointer (some ⟨W.heap.size,0,none⟩)) (w':=W.alloc (.cells (bv z32).toArray 22)) rfl (RU.wanted_none rfl) (fun ev he hc => ?_) ⟨_,rfl,hI.alloc (fun _ _ _ _ _ _=>trivial) (5,7,bv A2,bv z32) (by simp) 22 (hbk 7 rfl) (by simp) (by simp) rfl (fun _ _=>trivial)⟩
   simp only [qF,qD,qE,execOp]
   first | (go_simp;done) | (go_simp;rfl) | (go_simp;rw [zero_32];rfl) | (go_simp;rw [zero_64];rfl)
  ·intro a W d V hI hd hpx hbk hf hp
   have hO':Below W1.heap.size W1 W:=hI.be
   refine RU.ob_run (v := .pointer (some ⟨W.heap.size,0,none⟩)) (w':=W.alloc (.cells (bv z64).toArray 24)) rfl (RU.wanted_none rfl) (fun ev he hc => ?_) ⟨_,rfl,hI.alloc (fun _ _ _ _ _ _=>trivial) (6,8,bv G,bv z64) (by simp) 24 (hbk 8 rfl) (by simp) (by simp) rfl (fun _ _=>trivial)⟩
   simp only [qF,qD,qE,execOp]
   first | (go_simp;done) | (go_simp;rfl) | (go_simp;rw [zero_32];rfl) | (go_simp;rw [zero_64];rfl)
  ·intro a W d V hI hd hpx hbk hf hp
   have hO':Below W1.heap.size W1 W:=hI.be
   have d9:d 5=true:=hpx 5 rfl
   obtain ⟨b,hV,-,-,hth,-⟩:=hI.pt (5,7,bv A2,bv z32) (by simp) d9
   have qp:a.eval (.tmp 9) = .pointer (some ⟨b,0,none⟩):=(hp 5 9 rfl).trans hV
   have qv:a.eval (.tmp 15) = .agg (bv A2).toArray:=(hp 1 15 rfl).trans (hI.kn 1 _ rfl (hpx 1 rfl))
   exact RU.ob_op rfl (RU.wanted_none rfl) (wp_store_mid 22 (.tmp 9) (.tmp 15) rfl b 0 (bv A2).toArray qp qv (by rw [List.size_toArray,(show (bv A2).length=(bv z32).length by rw [bv_length,bv_length,HA2.out.len,z32_l32.len])];exact hth) (by rw [List.size_toArray];exact size_l32 HA2.out) (bv_one' _) ⟨_,rfl,by simp only [List.toList_toArray];exact hI.store (5,7,bv A2,bv z32) (by simp) d9 hV _ (by simp) (by simp) rfl (show (bv A2).length=(bv z32).length by rw [bv_length,bv_length,HA2.out.len,z32_l32.len]) (by simp)⟩)
  ·intro a W d V hI hd hpx hbk hf hp
   have hO':Below W1.heap.size W1 W:=hI.be
   have d9:d 6=true:=hpx 6 rfl
   obtain ⟨b,hV,-,-,hth,-⟩:=hI.pt (6,8,bv G,bv z64) (by simp) d9
   have qp:a.eval (.tmp 10) = .pointer (some ⟨b,0,none⟩):=(hp 6 10 rfl).trans hV
   have qv:a.eval (.tmp 18) = .agg (bv G).toArray:=(hp 4 18 rfl).trans (hI.kn 4 _ rfl (hpx 4 rfl))
   exact RU.ob_op rfl (RU.wanted_none rfl) (wp_store_mid 24 (.tmp 10) (.tmp 18) rfl b 0 (bv G).toArray qp qv (by rw [List.size_toArray,(show (bv G).length=(bv z64).length by rw [bv_length,bv_length,HGL.out];rfl)];exact hth) (by rw [List.size_toArray];exact (show (Tryz.prog.info? 24).map (·.size)=some (bv G).length by rw [bv_length,HGL.out];exact size64)) (bv_one' _) ⟨_,rfl,by simp only [List.toList_toArray];exact hI.store (6,8,bv G,bv z64) (by simp) d9 hV _ (by simp) (by simp) rfl (show (bv G).length=(bv z64).length by rw [bv_length,bv_length,HGL.out];rfl) (by simp)⟩)
 intro W2 dW2 VW2 hal hI
 have BW2:Hid (Below W1.heap.size W1 W2):=hI.be
 have hs0:VW2 0 = .agg (bv s).toArray:=hI.kn 0 _ rfl (hal 0 (by decide))
 have hs1:VW2 1 = .agg (bv A2).toArray:=hI.kn 1 _ rfl (hal 1 (by decide))
 have hs2:VW2 2 = .agg (bv s).toArray:=hI.kn 2 _ rfl (hal 2 (by decide))
 have hs3:VW2 3=v:=hI.kn 3 _ rfl (hal 3 (by decide))
 have hs4:VW2 4 = .agg (bv G).toArray:=hI.kn 4 _ rfl (hal 4 (by decide))
 obtain ⟨b5,hs5,hb5,hl5,ht5,hr5⟩:=hI.pt (5,7,bv A2,bv z32) (by simp) (hal 5 (by decide))
 have hs5:VW2 5 = .pointer (some ⟨b5,0,none⟩):=hs5
 have T5W2:Hid (W2.there b5 0 32):=ht5
 have R5W2:Hid (W2.rangeAt b5 0 (bv A2)):=by have h9:dW2 7=true:=hal 7 (by decide);simp only [h9,if_true] at hr5;exact hr5
 have L5W2:Hid (b5<W2.heap.size):=hl5
 have G5W2:Hid (W1.heap.size≤b5):=hb5
 obtain ⟨b6,hs6,hb6,hl6,ht6,hr6⟩:=hI.pt (6,8,bv G,bv z64) (by simp) (hal 6 (by decide))
 have hs6:VW2 6 = .pointer (some ⟨b6,0,none⟩):=hs6
 have T6W2:Hid (W2.there b6 0 64):=ht6
 have NE56:Hid (b5≠b6):=fun e=>hI.ne (5,7,bv A2,bv z32) (by simp) (6,8,bv G,bv z64) (by simp) (by show (5:Nat)≠6;decide) (hal 5 (by decide)) (hal 6 (by decide)) (by rw [hs5,hs6,e])
 have R6W2:Hid (W2.rangeAt b6 0 (bv G)):=by have h9:dW2 8=true:=hal 8 (by decide);simp only [h9,if_true] at hr6;exact hr6
 have L6W2:Hid (b6<W2.heap.size):=hl6
 have G6W2:Hid (W1.heap.size≤b6):=hb6
 simp only [RU.lay,Act.put,hs0,hs1,hs2,hs3,hs4,hs5,hs6]
 simp only [qA,qB,qC]
 clear hI hal hs0 hs1 hs2 hs3 hs4 hs5 hs6 hb5 hl5 hr5 hb6 hl6 hr6
--@2
 have B2w:Hid (Below w.heap.size w W2):=(BU.out.trans (B1.out.mono BU.out.size)).trans (BW2.out.mono (Nat.le_trans BU.out.size B1.out.size))
 have HV2:Hid (Sl W2 v p):=HV1.out.below BW2.out (Nat.le_refl _)
 have HG2:Hid (Glo Ve.MA W2):=glo_below HG1.out BW2.out
 go_upto_region 5 with (at_builtin;refine app_u8 (B0:=W2.heap.size) rfl (.tmp 19) (.tmp 20) rfl (by simp) _ [] rfl (ow_lit W2) _ rfl p (HV2.out.below ((Below.refl _ W2).alloc (Nat.le_refl _) _) (Nat.le_refl _)) (by have:=HPL.out;simp;omega) ?_;intro v11 W4 g1 g2 g3 g4;rw [List.nil_append] at g1;have O4:Hid (Ow W2.heap.size W4 v11 p):=g1;have B4:Hid (Below W2.heap.size W2 W4):=((Below.refl _ W2).alloc (Nat.le_refl _) _).trans g3;clear g1 g2 g3 g4)
 have B14:Hid (Below W1.heap.size W1 W4):=BW2.out.trans (B4.out.mono BW2.out.size)
 have SW1:Hid (w.heap.size≤W1.heap.size):=Nat.le_trans BU.out.size B1.out.size
 have RA4:Hid (W4.rangeAt b5 0 (bv A2)):=range_below R5W2.out B4.out L5W2.out
 have RG4:Hid (W4.rangeAt b6 0 (bv G)):=range_below R6W2.out B4.out L6W2.out
 have L54:Hid (b5<W4.heap.size):=Nat.lt_of_lt_of_le L5W2.out B4.out.size
 have L64:Hid (b6<W4.heap.size):=Nat.lt_of_lt_of_le L6W2.out B4.out.size
 have HLP:Hid (p.length≤140737488353000):=Nat.le_trans HPL.out (by decide)
 go_upto_region 9 with fail
 obtain ⟨m,hm,em⟩:=rem_at ax
 have ek:=rem_wh wh
 rw [em]
 clear em
 rcases ek with ek | ek | ek <;> rw [ek] <;> clear ek
 case' inl =>
  obtain ⟨j,hj⟩ : ∃ j:Nat,(m:Int)/8=(j:Int):=⟨m/8,by omega⟩
  obtain ⟨r,hr⟩ : ∃ r:Nat,(m:Int) % 8=(r:Int):=⟨m % 8,by omega⟩
  have hj1:j<64:=by omega
  have hr1:r<8:=by omega
  have c0:W4.cell? ⟨b6,j,none⟩=some (.int .u8 (gi G j)):=cell_of RG4.out (by rw [HGL.out];exact hj1)
  have T4:=there_mono T6W2.out B4.out L6W2.out
  have c1:W4.frozen? ⟨b6,j,none⟩=false:=by have:=(T4 j hj1).2;rwa [Nat.zero_add] at this
  go_upto_region 13 with fail
  obtain ⟨z,hz⟩ : ∃ z,bits BinOp.xor IntKind.u8 (gi G j) (2 ^ r % 256)=z:=⟨_,rfl⟩
  have zb:0≤z∧z≤255:=by rw [←hz];exact Ve.u8_lo _ _ _
  rw [hz]
  have pk:Pk b5 b6 v11 W1 W4 (W4.setCell ⟨b6,j,none⟩ (.int .u8 z)):=by
   obtain ⟨r',t',hr',ht',e9⟩:=halves64 (x:=G.set j z) (by rw [List.length_set];exact HGL.out) (byt_set HGB.out j zb)
   exact ⟨A2,r',t',p,HA2.out,hr',ht',HP.out,HLP.out,range_apart RA4.out NE56.out j _,by rw [←e9];exact range_set RG4.out (by rw [HGL.out];exact T4) (by rw [HGL.out];exact hj1) z,(O4.out.keep (fun b hb=>Below.heap_setCell _ _ _ b (fun e=>by have:=O4.out.blk b hb;have:=L6W2.out;simp only at e;omega))).sl,B14.out.setCell (by exact G6W2.out) _,Nat.le_of_eq (World.size_setCell _ _ _).symm⟩
  generalize W4.setCell ⟨b6,j,none⟩ (.int .u8 z)=W9 at pk ⊢
  clear hz c0 c1 hr hj hr1 zb T4 hj1 hm
 case' inr.inl =>
  obtain ⟨j,hj⟩ : ∃ j:Nat,(m:Int)/16=(j:Int):=⟨m/16,by omega⟩
  obtain ⟨r,hr⟩ : ∃ r:Nat,(m:Int) % 8=(r:Int):=⟨m % 8,by omega⟩
  have hj1:j<32:=by omega
  have hr1:r<8:=by omega
  have c0:W4.cell? ⟨b5,j,none⟩=some (.int .u8 (gi A2 j)):=cell_of RA4.out (by rw [HA2.out.len];exact hj1)
  have T4:=there_mono T5W2.out B4.out L5W2.out
  have c1:W4.frozen? ⟨b5,j,none⟩=false:=by have:=(T4 j hj1).2;rwa [Nat.zero_add] at this
  go_upto_region 13 with fail
  obtain ⟨z,hz⟩ : ∃ z,bits BinOp.xor IntKind.u8 (gi A2 j) (2 ^ r % 256)=z:=⟨_,rfl⟩
  have zb:0≤z∧z≤255:=by rw [←hz];exact Ve.u8_lo _ _ _
  rw [hz]
  have pk:Pk b5 b6 v11 W1 W4 (W4.setCell ⟨b5,j,none⟩ (.int .u8 z)):=by
   obtain ⟨r',t',hr',ht',e9⟩:=halves64 HGL.out HGB.out
   exact ⟨A2.set j z,r',t',p,⟨by rw [List.length_set];exact HA2.out.len,byt_set HA2.out.byt j zb⟩,hr',ht',HP.out,HLP.out,range_set RA4.out (by rw [HA2.out.len];exact T4) (by rw [HA2.out.len];exact hj1) z,by rw [←e9];exact range_apart RG4.out (Ne.symm NE56.out) j _,(O4.out.keep (fun b hb=>Below.heap_setCell _ _ _ b (fun e=>by have:=O4.out.blk b hb;have:=L5W2.out;simp only at e;omega))).sl,B14.out.setCell (by exact G5W2.out) _,Nat.le_of_eq (World.size_setCell _ _ _).symm⟩
  generalize W4.setCell ⟨b5,j,none⟩ (.int .u8 z)=W9 at pk ⊢
  clear hz c0 c1 hr hj hr1 zb T4 hj1 hm
 case' inr.inr =>
  obtain ⟨ad,cap,rfl,hc,hsl⟩:=O4.out.sl
  rcases Nat.eq_zero_or_pos p.length with hp0 | hp0
  case' inl =>
   have h0:(p.length:Int)=0:=by omega
   go_upto_region 13 with fail
   have pk:Pk b5 b6 (.slice ad p.length cap) W1 W4 W4:=by
    obtain ⟨r',t',hr',ht',e9⟩:=halves64 HGL.out HGB.out
    exact ⟨A2,r',t',p,HA2.out,hr',ht',HP.out,HLP.out,RA4.out,by rw [←e9];exact RG4.out,O4.out.sl,B14.out,Nat.le_refl _⟩
   obtain ⟨v11,hv⟩ : ∃ v,Value.slice ad p.length cap=v:=⟨_,rfl⟩
   obtain ⟨W9,hW⟩ : ∃ W,W4=W:=⟨_,rfl⟩
   have pk9:Pk b5 b6 v11 W1 W4 W9:=by rw [←hv,←hW];exact pk
   rw [hv,hW]
   clear hsl hc h0 hp0 hm pk hv hW
  case' inr =>
   obtain ⟨g,rfl⟩ : ∃ g,ad=some ⟨g,0,none⟩:=by
    rcases O4.out.2 with ⟨e,h0⟩ | ⟨g,c',cur,e,_⟩
    ·omega
    ·simp only [Value.slice.injEq] at e;exact ⟨g,e.1⟩
   have LG4:Hid (g<W4.heap.size):=O4.out.lt g rfl
   have GG4:Hid (W2.heap.size≤g):=O4.out.blk g rfl
   obtain ⟨j,hj⟩ : ∃ j:Nat,(m:Int) % (p.length:Int)=(j:Int):=⟨m % p.length,by omega⟩
   have hj1:j<p.length:=by have:=Int.emod_lt_of_pos (m:Int) (show (0:Int)<(p.length:Int) by omega);omega
   have HJ:Hid ((m:Int) % (p.length:Int)=(j:Int)):=hj
   have HJL:Hid (j<p.length):=hj1
   have HP0:Hid (0<p.length):=hp0
   have C0:Hid (W4.cell? ⟨g,j,none⟩=some (.int .u8 (gi p j))):=(O4.out.cell hj1).1
   have C1:Hid (W4.frozen? ⟨g,j,none⟩=false):=(O4.out.cell hj1).2
   clear hsl hc
   go_upto_region 8 with fail
   clear hp0 hj hj1
   refine RU.wp_rgn' [14] (vt8f p m j g cap) (fun _=>0) (vt8Ω W4 g j (bits .xor .u8 (gi p j) 1)) (by kernel_rfl) (by kernel_rfl) (show Below W4.heap.size W4 _ from (Below.refl _ _).drew) ?_ ?_
   ·refine ⟨?_,?_,?_,?_,?_,?_,?_,?_,?_,?_,?_,?_,?_,?_,?_,trivial⟩
    ·refine RU.ObT.pure rfl rfl rfl (fun a V hf hp ev he hc W => ?_)
     have q11:ev (.tmp 11) = .slice (some ⟨g,0,none⟩) p.length cap:=(he (.tmp 11)).trans (hf 11 rfl)
     simp only [qF,qD,qE,execOp,Option.map_some,Option.map_none];rw [q11]
     first | (go_simp;done) | (go_simp;rfl) | rfl
    ·refine RU.ObT.pure rfl rfl rfl (fun a V hf hp ev he hc W => ?_)
     have q3:ev (.tmp 3) = .int .i64 (m:Int):=(he (.tmp 3)).trans (hf 3 rfl)
     simp only [qF,qD,qE,execOp,Option.map_some,Option.map_none];rw [q3]
     first | (go_simp;done) | (go_simp;rfl) | rfl
    ·refine RU.ObT.pure rfl rfl rfl (fun a V hf hp ev he hc W => ?_)
     have q11:ev (.tmp 11) = .slice (some ⟨g,0,none⟩) p.length cap:=(he (.tmp 11)).trans (hf 11 rfl)
     simp only [qF,qD,qE,execOp,Option.map_some,Option.map_none];rw [q11]
     first | (go_simp;done) | (go_simp;rfl) | rfl
    ·refine RU.ObT.pure rfl rfl rfl (fun a V hf hp ev he hc W => ?_)
     have q35:ev (.tmp 35) = .slice (some ⟨g,0,none⟩) p.length cap:=(he (.tmp 35)).trans (hp 2 35 rfl)
     simp only [qF,qD,qE,execOp,Option.map_some,Option.map_none];simp only [resolve,invoke,builtin,Sem.run_bind,Sem.run_pure,Result.andThen_ok,List.map_toArray,List.map_cons,List.map_nil,q35]
     first | (go_simp;done) | (go_simp;rfl) | rfl
    ·refine RU.ObT.pure rfl rfl rfl (fun a V hf hp ev he hc W => ?_)
     have q34:ev (.tmp 34) = .int .i64 (m:Int):=(he (.tmp 34)).trans (hp 1 34 rfl)
     have q36:ev (.tmp 36) = .int .i64 (p.length:Int):=(he (.tmp 36)).trans (hp 3 36 rfl)
     simp only [qF,qD,qE,execOp,Option.map_some,Option.map_none];rw [q34,q36]
     exact (run_rem _ _ _ _ m p.length W HP0.out).trans (by rw [HJ.out];rfl)
    ·refine RU.ObT.pure rfl rfl rfl (fun a V hf hp ev he hc W => ?_)
     have q11:ev (.tmp 11) = .slice (some ⟨g,0,none⟩) p.length cap:=(he (.tmp 11)).trans (hf 11 rfl)
     simp only [qF,qD,qE,execOp,Option.map_some,Option.map_none];rw [q11]
     first | (go_simp;done) | (go_simp;rfl) | rfl
    ·refine RU.ObT.pure rfl rfl rfl (fun a V hf hp ev he hc W => ?_)
     have q3:ev (.tmp 3) = .int .i64 (m:Int):=(he (.tmp 3)).trans (hf 3 rfl)
     simp only [qF,qD,qE,execOp,Option.map_some,Option.map_none];rw [q3]
     first | (go_simp;done) | (go_simp;rfl) | rfl
    ·refine RU.ObT.pure rfl rfl rfl (fun a V hf hp ev he hc W => ?_)
     have q11:ev (.tmp 11) = .slice (some ⟨g,0,none⟩) p.length cap:=(he (.tmp 11)).trans (hf 11 rfl)
     simp only [qF,qD,qE,execOp,Option.map_some,Option.map_none];rw [q11]
     first | (go_simp;done) | (go_simp;rfl) | rfl
    ·refine RU.ObT.pure rfl rfl rfl (fun a V hf hp ev he hc W => ?_)
     have q40:ev (.tmp 40) = .slice (some ⟨g,0,none⟩) p.length cap:=(he (.tmp 40)).trans (hp 7 40 rfl)
     simp only [qF,qD,qE,execOp,Option.map_some,Option.map_none];simp only [resolve,invoke,builtin,Sem.run_bind,Sem.run_pure,Result.andThen_ok,List.map_toArray,List.map_cons,List.map_nil,q40]
     first | (go_simp;done) | (go_simp;rfl) | rfl
    ·refine RU.ObT.pure rfl rfl rfl (fun a V hf hp ev he hc W => ?_)
     have q39:ev (.tmp 39) = .int .i64 (m:Int):=(he (.tmp 39)).trans (hp 6 39 rfl)
     have q41:ev (.tmp 41) = .int .i64 (p.length:Int):=(he (.tmp 41)).trans (hp 8 41 rfl)
     simp only [qF,qD,qE,execOp,Option.map_some,Option.map_none];rw [q39,q41]
     exact (run_rem _ _ _ _ m p.length W HP0.out).trans (by rw [HJ.out];rfl)
    ·refine RU.ObT.pure rfl rfl rfl (fun a V hf hp ev he hc W => ?_)
     have q38:ev (.tmp 38) = .slice (some ⟨g,0,none⟩) p.length cap:=(he (.tmp 38)).trans (hp 5 38 rfl)
     have q42:ev (.tmp 42) = .int .i64 (j:Int):=(he (.tmp 42)).trans (hp 9 42 rfl)
     simp only [qF,qD,qE,execOp,Option.map_some,Option.map_none];rw [q38,q42]
     have h9:=HJL.out
     first | (go_simp;done) | (go_simp;rfl) | rfl
    ·refine RU.ObT.silent rfl (fun a W k0 V hO hf hp hk => ?_)
     have hO':Below W4.heap.size W4 W:=by obtain rfl:=Nat.le_zero.1 hk;exact hO
     have hcell:W.cell? ⟨g,j,none⟩=some (.int .u8 (gi p j)):=(hO'.cell (p:=⟨g,j,none⟩) LG4.out).trans C0.out
     refine RU.ob_val rfl (RU.wanted_none rfl) (fun ev he hc => ?_) ⟨rfl,hO⟩
     have q43:ev (.tmp 43) = .pointer (some ⟨g,j,none⟩):=(he (.tmp 43)).trans (hp 10 43 rfl)
     simp only [qF,qD,qE,execOp,Option.map_some,Option.map_none];rw [q43]
     first | (go_simp;done) | (go_simp;rfl) | rfl
    ·refine RU.ObT.pure rfl rfl rfl (fun a V hf hp ev he hc W => ?_)
     have q44:ev (.tmp 44) = .int .u8 (gi p j):=(he (.tmp 44)).trans (hp 11 44 rfl)
     simp only [qF,qD,qE,execOp,Option.map_some,Option.map_none];rw [q44]
     try simp only [hc]
     first | (go_simp;done) | (go_simp;rfl) | rfl
    ·refine RU.ObT.pure rfl rfl rfl (fun a V hf hp ev he hc W => ?_)
     have q33:ev (.tmp 33) = .slice (some ⟨g,0,none⟩) p.length cap:=(he (.tmp 33)).trans (hp 0 33 rfl)
     have q37:ev (.tmp 37) = .int .i64 (j:Int):=(he (.tmp 37)).trans (hp 4 37 rfl)
     simp only [qF,qD,qE,execOp,Option.map_some,Option.map_none];rw [q33,q37]
     have h9:=HJL.out
     first | (go_simp;done) | (go_simp;rfl) | rfl
    ·refine RU.ObT.loud (j:=0) rfl (fun a W V hO hf hp => ?_)
     have hB:Below W4.heap.size W4 W:=hO
     have q1:a.eval (.tmp 46) = .pointer (some ⟨g,j,none⟩):=hp 13 46 rfl
     have q2:a.eval (.tmp 45) = .int .u8 (bits .xor .u8 (gi p j) 1):=hp 12 45 rfl
     have hc8:W.cell? ⟨g,j,none⟩=some (.int .u8 (gi p j)):=(hB.cell (p:=⟨g,j,none⟩) LG4.out).trans C0.out
     have hf8:W.frozen? ⟨g,j,none⟩=false:=(hB.frozen (p:=⟨g,j,none⟩) LG4.out).trans C1.out
     refine RU.ob_skip (w':=W.setCell ⟨g,j,none⟩ (.int .u8 (bits .xor .u8 (gi p j) 1))) rfl (RU.wanted_none rfl) (fun ev he hc => ?_) ⟨_,rfl,W,hB,rfl⟩
     have h1:=(he (.tmp 46)).trans q1
     have h2:=(he (.tmp 45)).trans q2
     simp only [qF,qD,qE,execOp,h1,h2]
     go_simp
   intro W8 VW8 hOW8
   have PW8:Hid (∃ W0,Below W4.heap.size W4 W0∧W8=W0.setCell ⟨g,j,none⟩ (.int .u8 (bits .xor .u8 (gi p j) 1))):=hOW8
   clear hOW8
   simp only [RU.lay,RU.val,RU.at',vt8f,Act.put]
   simp only [qA,qB,qC]
   go_upto_region 13 with fail
   have pk:Pk b5 b6 (.slice (some ⟨g,0,none⟩) p.length cap) W1 W4 W8:=by
    obtain ⟨W0,h1,h2⟩:=PW8.out
    obtain ⟨r',t',hr',ht',e9⟩:=halves64 HGL.out HGB.out
    have o1:=((O4.out.below h1).set j (bits .xor .u8 (gi p j) 1)).1
    rw [h2]
    exact ⟨A2,r',t',p.set j _,HA2.out,hr',ht',byt_set HP.out j (Ve.u8_lo _ _ _),by rw [List.length_set];exact HLP.out,range_apart (range_below RA4.out h1 L54.out) (by have:=GG4.out;have:=L5W2.out;omega) j _,by rw [←e9];exact range_apart (range_below RG4.out h1 L64.out) (by have:=GG4.out;have:=L6W2.out;omega) j _,o1.sl,(B14.out.trans (h1.mono B14.out.size)).setCell (by have:=GG4.out;have:=BW2.out.size;show W1.heap.size≤g;omega) _,by rw [World.size_setCell];exact h1.size⟩
   obtain ⟨v11,hv⟩ : ∃ v,Value.slice (some ⟨g,0,none⟩) p.length cap=v:=⟨_,rfl⟩
   obtain ⟨W9,hW⟩ : ∃ W,W8=W:=⟨_,rfl⟩
   have pk9:Pk b5 b6 v11 W1 W4 W9:=by rw [←hv,←hW];exact pk
   rw [hv,hW]
   clear hm pk hv hW
 all_goals
  have HPK:Hid (Pk b5 b6 v11 W1 W4 W9):=by first | exact pk9 | exact pk
  obtain ⟨A',r',t',p',h1,h2,h3,h4,h5,h6,h7,h8,h9,h10⟩:=HPK.out
  have HA9:Hid (L32 A'):=h1
  have HR9:Hid (L32 r'):=h2
  have HT9:Hid (L32 t'):=h3
  have RA9:Hid (W9.rangeAt b5 0 (bv A')):=h6
  have RG9:Hid (W9.rangeAt b6 0 (bv (r' ++ t'))):=h7
  have HS9:Hid (Sl W9 v11 p'):=h8
  have B9:Hid (Below W1.heap.size W1 W9):=h9
  have LA9:Hid (b5<W9.heap.size):=Nat.lt_of_lt_of_le L54.out h10
  have LG9:Hid (b6<W9.heap.size):=Nat.lt_of_lt_of_le L64.out h10
  have HG9:Hid (Glo Ve.MA W9):=glo_below HG1.out h9
  obtain ⟨E,hE⟩ : ∃ E,vfE A' p' r' t'=E:=⟨_,rfl⟩
  have HV3:Hid (∀ W,Sl W v11 p'→Glo Ve.MA W→Calls Tryz.prog 6 #[.agg (bv A').toArray,v11,.agg (bv (r' ++ t')).toArray] W fun e w'=>e = .returned (.int .i64 E)∧Below W.heap.size W w'):=fun W k1 k2=>by rw [←hE];exact verify_any A' p' r' t' h1 h2 h3 h4 h5 v11 W k1 k2
  have HV7:Hid (∀ W,Sl W v11 p'→Calls Tryz.prog 7 #[.agg (bv A').toArray,v11,.agg (bv (r' ++ t')).toArray] W fun e w'=>e = .returned (.int .i64 E)∧Below W.heap.size W w'):=fun W k1=>by rw [←hE];exact rverify_any A' p' r' t' h1 h2 h3 h4 h5 v11 W k1
  clear h1 h2 h3 h4 h5 h6 h7 h8 h9 h10 hE
  refine RG.wp_rgn' (GI W9 (vt13f A' r' t' v11 E) (fun _ _ _=>True) []) (by kernel_rfl) (by kernel_rfl) GI.start ?_ ?_
  ·refine ⟨?_,?_,?_,?_,?_,?_,?_,?_,?_,?_,trivial⟩
   ·intro a W d V hI hd hpx hbk hf hp
    have hO':Below W9.heap.size W9 W:=hI.be
    have q9:a.eval (.tmp 9) = .pointer (some ⟨b5,0,none⟩):=hf 9 rfl
    exact RU.ob_op rfl (RU.wanted_none rfl) (wp_load_mid 22 (.tmp 9) rfl (b5) (0) q9 (bv A') _ (range_below RA9.out hO' LA9.out) Tryz.underlying22 rfl (size_l32 HA9.out) ⟨_,rfl,hI.step (fun _ _ _ _ _ _=>trivial) (Below.refl _ _) 0 _ (by simp) (fun u hu=>by first | (cases hu;rfl) | cases hu) (trivial)⟩)
   ·intro a W d V hI hd hpx hbk hf hp
    have hO':Below W9.heap.size W9 W:=hI.be
    refine RU.ob_val (v:=v11) rfl (RU.wanted_none rfl) (fun ev he hc => ?_) ⟨_,rfl,hI.step (fun _ _ _ _ _ _=>trivial) (Below.refl _ _) 1 _ (by simp) (fun u hu=>by first | (cases hu;rfl) | cases hu) (trivial)⟩
    have q11:ev (.tmp 11)=v11:=(he (.tmp 11)).trans (hf 11 rfl)
    simp only [qF,qD,qE,execOp,Option.map_some,Option.map_none];rw [q11]
    first | (go_simp;done) | (go_simp;rfl) | rfl
   ·intro a W d V hI hd hpx hbk hf hp
    have hO':Below W9.heap.size W9 W:=hI.be
    have q10:a.eval (.tmp 10) = .pointer (some ⟨b6,0,none⟩):=hf 10 rfl
    exact RU.ob_op rfl (RU.wanted_none rfl) (wp_load_mid 24 (.tmp 10) rfl (b6) (0) q10 (bv (r' ++ t')) _ (range_below RG9.out hO' LG9.out) Tryz.underlying24 rfl ((by rw [bv_length,List.length_append,HR9.out.len,HT9.out.len];exact size64)) ⟨_,rfl,hI.step (fun _ _ _ _ _ _=>trivial) (Below.refl _ _) 2 _ (by simp) (fun u hu=>by first | (cases hu;rfl) | cases hu) (trivial)⟩)
   ·intro a W d V hI hd hpx hbk hf hp
    have hO':Below W9.heap.size W9 W:=hI.be
    have e75:a.eval (.tmp 75) = .agg (bv A').toArray:=(hp 0 75 rfl).trans (hI.kn 0 _ rfl (hpx 0 rfl))
    have e76:a.eval (.tmp 76)=v11:=(hp 1 76 rfl).trans (hI.kn 1 _ rfl (hpx 1 rfl))
    have e77:a.eval (.tmp 77) = .agg (bv (r' ++ t')).toArray:=(hp 2 77 rfl).trans (hI.kn 2 _ rfl (hpx 2 rfl))
    have hno : ∀ x ∈ ([]:List Al),d x.2.1=false:=by simp
    refine RU.ob_call (g:=6) (args := #[.agg (bv A').toArray,v11,.agg (bv (r' ++ t')).toArray]) rfl (RU.wanted_none rfl) (fun ev he hc => ?_) ((HV3.out W (HS9.out.below hO' (Nat.le_refl _)) (glo_below HG9.out hO')).mono ?_)
    ·have h75:=(he (.tmp 75)).trans e75
     have h76:=(he (.tmp 76)).trans e76
     have h77:=(he (.tmp 77)).trans e77
     have hfn:=he (.func 6)
     simp only [qF,qD,qE,execOp,Option.map_some,Option.map_none]
     simp only [resolve,invoke,Sem.run_bind,Sem.run_pure,Result.andThen_ok,List.map_toArray,List.map_cons,List.map_nil,h75,h76,h77,hfn,Act.eval,hc]
     rfl
    ·rintro e' W2 ⟨rfl,hb2⟩
     exact ⟨_,rfl,⟨_,rfl,hI.step (fun _ _ _ _ _ _=>trivial) hb2 3 _ (by simp) (fun u hu=>by first | (cases hu;rfl) | cases hu) (trivial)⟩⟩
   ·intro a W d V hI hd hpx hbk hf hp
    have hO':Below W9.heap.size W9 W:=hI.be
    have q9:a.eval (.tmp 9) = .pointer (some ⟨b5,0,none⟩):=hf 9 rfl
    exact RU.ob_op rfl (RU.wanted_none rfl) (wp_load_mid 22 (.tmp 9) rfl (b5) (0) q9 (bv A') _ (range_below RA9.out hO' LA9.out) Tryz.underlying22 rfl (size_l32 HA9.out) ⟨_,rfl,hI.step (fun _ _ _ _ _ _=>trivial) (Below.refl _ _) 4 _ (by simp) (fun u hu=>by first | (cases hu;rfl) | cases hu) (trivial)⟩)
   ·intro a W d V hI hd hpx hbk hf hp
    have hO':Below W9.heap.size W9 W:=hI.be
    refine RU.ob_val (v:=v11) rfl (RU.wanted_none rfl) (fun ev he hc => ?_) ⟨_,rfl,hI.step (fun _ _ _ _ _ _=>trivial) (Below.refl _ _) 5 _ (by simp) (fun u hu=>by first | (cases hu;rfl) | cases hu) (trivial)⟩
    have q11:ev (.tmp 11)=v11:=(he (.tmp 11)).trans (hf 11 rfl)
    simp only [qF,qD,qE,execOp,Option.map_some,Option.map_none];rw [q11]
    first | (go_simp;done) | (go_simp;rfl) | rfl
   ·intro a W d V hI hd hpx hbk hf hp
    have hO':Below W9.heap.size W9 W:=hI.be
    have q10:a.eval (.tmp 10) = .pointer (some ⟨b6,0,none⟩):=hf 10 rfl
    exact RU.ob_op rfl (RU.wanted_none rfl) (wp_load_mid 24 (.tmp 10) rfl (b6) (0) q10 (bv (r' ++ t')) _ (range_below RG9.out hO' LG9.out) Tryz.underlying24 rfl ((by rw [bv_length,List.length_append,HR9.out.len,HT9.out.len];exact size64)) ⟨_,rfl,hI.step (fun _ _ _ _ _ _=>trivial) (Below.refl _ _) 6 _ (by simp) (fun u hu=>by first | (cases hu;rfl) | cases hu) (trivial)⟩)
   ·intro a W d V hI hd hpx hbk hf hp
    have hO':Below W9.heap.size W9 W:=hI.be
    have e79:a.eval (.tmp 79) = .agg (bv A').toArray:=(hp 4 79 rfl).trans (hI.kn 4 _ rfl (hpx 4 rfl))
    have e80:a.eval (.tmp 80)=v11:=(hp 5 80 rfl).trans (hI.kn 5 _ rfl (hpx 5 rfl))
    have e81:a.eval (.tmp 81) = .agg (bv (r' ++ t')).toArray:=(hp 6 81 rfl).trans (hI.kn 6 _ rfl (hpx 6 rfl))
    have hno : ∀ x ∈ ([]:List Al),d x.2.1=false:=by simp
    refine RU.ob_call (g:=7) (args := #[.agg (bv A').toArray,v11,.agg (bv (r' ++ t')).toArray]) rfl (RU.wanted_none rfl) (fun ev he hc => ?_) ((HV7.out W (HS9.out.below hO' (Nat.le_refl _))).mono ?_)
    ·have h79:=(he (.tmp 79)).trans e79
     have h80:=(he (.tmp 80)).trans e80
     have h81:=(he (.tmp 81)).trans e81
     have hfn:=he (.func 7)
     simp only [qF,qD,qE,execOp,Option.map_some,Option.map_none]
     simp only [resolve,invoke,Sem.run_bind,Sem.run_pure,Result.andThen_ok,List.map_toArray,List.map_cons,List.map_nil,h79,h80,h81,hfn,Act.eval,hc]
     rfl
    ·rintro e' W2 ⟨rfl,hb2⟩
     exact ⟨_,rfl,⟨_,rfl,hI.step (fun _ _ _ _ _ _=>trivial) hb2 7 _ (by simp) (fun u hu=>by first | (cases hu;rfl) | cases hu) (trivial)⟩⟩
   ·intro a W d V hI hd hpx hbk hf hp
    have hO':Below W9.heap.size W9 W:=hI.be
    refine RU.ob_val (v := .bool true) rfl (RU.wanted_none rfl) (fun ev he hc => ?_) ⟨_,rfl,hI.step (fun _ _ _ _ _ _=>trivial) (Below.refl _ _) 8 _ (by simp) (fun u hu=>by first | (cases hu;rfl) | cases hu) (trivial)⟩
    have q78:ev (.tmp 78) = .int .i64 E:=(he (.tmp 78)).trans ((hp 3 78 rfl).trans (hI.kn 3 _ rfl (hpx 3 rfl)))
    have q82:ev (.tmp 82) = .int .i64 E:=(he (.tmp 82)).trans ((hp 7 82 rfl).trans (hI.kn 7 _ rfl (hpx 7 rfl)))
    simp only [qF,qD,qE,execOp,Option.map_some,Option.map_none];rw [q78,q82]
    first | (go_simp;done) | (go_simp;rfl) | rfl
   ·intro a W d V hI hd hpx hbk hf hp
    have hO':Below W9.heap.size W9 W:=hI.be
    refine RU.ob_val (v := .bool true) rfl (RU.wanted_none rfl) (fun ev he hc => ?_) ⟨_,rfl,hI.step (fun _ _ _ _ _ _=>trivial) (Below.refl _ _) 9 _ (by simp) (fun u hu=>by first | (cases hu;rfl) | cases hu) (trivial)⟩
    have q83:ev (.tmp 83) = .bool true:=(he (.tmp 83)).trans ((hp 8 83 rfl).trans (hI.kn 8 _ rfl (hpx 8 rfl)))
    simp only [qF,qD,qE,execOp,Option.map_some,Option.map_none];rw [q83]
    first | (go_simp;done) | (go_simp;rfl) | rfl
  intro WF dWF VWF hal hI
  have BWF:Hid (Below W9.heap.size W9 WF):=hI.be
  have hs0:VWF 0 = .agg (bv A').toArray:=hI.kn 0 _ rfl (hal 0 (by decide))
  have hs1:VWF 1=v11:=hI.kn 1 _ rfl (hal 1 (by decide))
  have hs2:VWF 2 = .agg (bv (r' ++ t')).toArray:=hI.kn 2 _ rfl (hal 2 (by decide))
  have hs3:VWF 3 = .int .i64 E:=hI.kn 3 _ rfl (hal 3 (by decide))
  have hs4:VWF 4 = .agg (bv A').toArray:=hI.kn 4 _ rfl (hal 4 (by decide))
  have hs5:VWF 5=v11:=hI.kn 5 _ rfl (hal 5 (by decide))
  have hs6:VWF 6 = .agg (bv (r' ++ t')).toArray:=hI.kn 6 _ rfl (hal 6 (by decide))
  have hs7:VWF 7 = .int .i64 E:=hI.kn 7 _ rfl (hal 7 (by decide))
  have hs8:VWF 8 = .bool true:=hI.kn 8 _ rfl (hal 8 (by decide))
  have hs9:VWF 9 = .bool true:=hI.kn 9 _ rfl (hal 9 (by decide))
  simp only [RU.lay,Act.put,hs0,hs1,hs2,hs3,hs4,hs5,hs6,hs7,hs8,hs9]
  simp only [qA,qB,qC]
  clear hI hal hs0 hs1 hs2 hs3 hs4 hs5 hs6 hs7 hs8 hs9
  have BF:Hid (Below w.heap.size w WF):=((BU.out.trans (B1.out.mono BU.out.size)).trans (B9.out.mono SW1.out)).trans (BWF.out.mono (Nat.le_trans SW1.out B9.out.size))
  go_wp2_with fail
  go_ret
  exact ⟨rfl,BF.out⟩
end Go.Proofs.YtkhjnjlinfbfoaaGreatDoor.Wi
