/- The reference's Public and Sign, walked. -/
import Derived.Test.YtkhjnjlinfbfoaaGreatDoorVkF
set_option linter.unusedSimpArgs false
set_option linter.unusedVariables false
namespace Go.Proofs.YtkhjnjlinfbfoaaGreatDoor.Wi
open Go Go.RowKit
set_option maxRecDepth 100000
theorem range_cat {w:World} {b:Nat} {r t:List Int} (hr:L32 r) (h1:w.rangeAt b 0 (bv r)) (h2:w.rangeAt b 32 (bv t)):w.rangeAt b 0 (bv (r ++ t)):=fun j v hj=>by
 rw [bv_append] at hj
 by_cases q:j<32
 ·rw [List.getElem?_append_left (by rw [bv_length,hr.len];exact q)] at hj
  exact h1 j v hj
 ·rw [List.getElem?_append_right (by rw [bv_length,hr.len];omega),bv_length,hr.len] at hj
  have:=h2 (j - 32) v hj
  rwa [show 32+(j - 32)=0+j by omega] at this
def mu (k s r:List Int):List Int:=bi ((le k*le s+le r) % Sc.LN)
theorem L32.mu (k s r:List Int):L32 (mu k s r):=bi_l32 _
theorem rmul_sl {k s r:List Int} (hk:L32 k) (hs:L32 s) (hr:L32 r) (w:World):Calls Tryz.prog 26 #[.agg (bv k).toArray,.agg (bv s).toArray,.agg (bv r).toArray] w fun e w'=>e = .returned (.agg (bv (mu k s r)).toArray)∧Below w.heap.size w w':=by
 rw [ag_le hk,ag_le hs,ag_le hr,mu,ag_bi];exact Sc.rMulAdd_any _ _ _ (le32 hk) (le32 hs) (le32 hr) w
set_option maxHeartbeats 4000000 in
theorem rpub_any (s:List Int) (hs:L32 s) (w:World) :
  Calls Tryz.prog 8 #[.agg (bv s).toArray] w fun e w'=>e = .returned (.agg (bv (Bs (Ve.sk s))).toArray)∧Below w.heap.size w w':=by
 have HS:Hid (L32 s):=hs
 have HHV:Hid (∀ W,Calls Tryz.prog 24 #[.agg (bv s).toArray] W fun e w' => ∃ v',e = .returned (.tuple #[.agg (bv (Ve.sk s)).toArray,v'])∧Ow W.heap.size w' v' (Ve.pf s)∧Below W.heap.size W w'):=fun W=>rhalves_any s hs W
 obtain ⟨S,hS⟩ : ∃ S,Ve.sk s=S:=⟨_,rfl⟩
 have HSL:Hid (L32 S):=by rw [←hS];exact Ve.sk_l32 _
 rw [hS] at HHV ⊢
 have HYL:Hid (L32 (Bs S)):=L32.bs _
 have HBC:Hid (∀ W,Calls Tryz.prog 25 #[.agg (bv S).toArray] W fun e w'=>e = .returned (.agg (bv (Bs S)).toArray)∧Below W.heap.size W w'):=fun W=>rbase_sl HSL.out W
 obtain ⟨Y,hY⟩ : ∃ Y,Bs S=Y:=⟨_,rfl⟩
 rw [hY] at HYL HBC ⊢
 have ra:=range_alloc w (bv s) 22 (0,0)
 have hz:=zero_32
 obtain ⟨Z,hZ⟩ : ∃ Z,(bv (List.replicate 32 0)).toArray=Z:=⟨_,rfl⟩
 have hZs:Z.size=32:=by rw [←hZ];simp [bv]
 have HZS:Hid (Z.size=32):=hZs
 have HZE:Hid ((bv z32).toArray=Z):=hZ
 rw [hZ] at hz
 obtain ⟨A,hA⟩ : ∃ A,(bv s).toArray=A:=⟨_,rfl⟩
 rw [hA] at ra ⊢
 obtain ⟨U,hU⟩ : ∃ U,(w.alloc (.cells A 22)).alloc (.cells Z 22)=U:=⟨_,rfl⟩
 have sU:U.heap.size=w.heap.size+2:=by rw [←hU];simp
 have bU:Below w.heap.size w U:=by rw [←hU];exact ((Below.refl _ w).alloc (Nat.le_refl _) _).alloc (by simp) _
 have rp:U.rangeAt w.heap.size 0 (bv s):=by rw [←hU];exact range_below ra ((Below.refl _ _).alloc (Nat.le_refl _) _) (by simp)
 have rr:U.heap[w.heap.size+1]? = some (.cells Z 22 (0,0)):=by
  rw [←hU];show ((w.heap.push _).push _)[w.heap.size+1]? = _;rw [Array.getElem?_push,if_pos (by simp)]
 have thr:U.there (w.heap.size+1) 0 32:=there_of_row' rr 0 32 (by rw [HZS.out];exact Nat.le_refl _)
 have BU:Hid (Below w.heap.size w U):=bU
 obtain ⟨D,hD⟩ : ∃ D,w.heap.size=D:=⟨_,rfl⟩
 have HD:Hid (w.heap.size=D):=hD
 rw [hD] at sU rp thr
 have SU:Hid (U.heap.size=D+2):=sU
 have THR:Hid (U.there (D+1) 0 32):=thr
 have RS_0:Hid (U.rangeAt D 0 (bv s)):=rp
 have LS_0:Hid (D<U.heap.size):=by show _<_;omega
 clear ra sU bU rp rr thr hA hs hS hY hZ hZs
 go_enter Tryz.func8,Tryz.ntmps8
 go_upto_region 1 with (fail)
 try rw [hU]
 try rw [hD]
 clear hU hD
 go_upto_region 2 with (first
  | (refine wpList_load_mid rfl 22 (.tmp 1) rfl (D) 0 rfl (bv s) _ RS_0.out Tryz.underlying22 rfl (size_l32 HS.out) ?_)
  | (go_at_call 24;refine (HHV.out U).mono ?_;rintro e W1 ⟨v1,rfl,g0,g1⟩;have BW1:Hid (Below U.heap.size U W1):=g1;clear g0 g1)
  | (refine wpList_store_mid rfl 22 (.tmp 3) (.tmp 8) rfl W1.heap.size 0 (bv S).toArray rfl rfl (there_new W1 (show (bv S).toArray.size=Z.size by rw [List.size_toArray,bv_length,HSL.out.len,HZS.out])) (by rw [List.size_toArray];exact size_l32 HSL.out) (bv_one' _) ?_;simp only [List.toList_toArray]))
 obtain ⟨e3,he3⟩ : ∃ n,W1.heap.size=n:=⟨_,rfl⟩
 obtain ⟨W2,hW2⟩ : ∃ W,(W1.alloc (.cells Z 22)).setCells W1.heap.size 0 (bv S)=W:=⟨_,rfl⟩
 obtain ⟨l1,l2,l3⟩:=laid_row (by rw [bv_length,HSL.out.len,HZS.out]) (by rw [bv_length,HSL.out.len];omega) hW2
 have BW2:Hid (Below W1.heap.size W1 W2):=l2
 have R3:Hid (W2.rangeAt e3 0 (bv S)):=by rw [←he3];exact l1
 try rw [hW2]
 try rw [he3]
 clear l1 l2 l3 hW2 he3 hz
 have BZ:Hid (Below w.heap.size w W2):=(BU.out.trans (BW1.out.mono BU.out.size)).trans (BW2.out.mono (Nat.le_trans BU.out.size BW1.out.size))
 have TH2:Hid (W2.there (D+1) 0 32):=there_mono (there_mono THR.out BW1.out (by have:=SU.out;omega)) BW2.out (Nat.lt_of_lt_of_le (by have:=SU.out;omega) BW1.out.size)
 have LT2:Hid (D+1<W2.heap.size):=Nat.lt_of_lt_of_le (Nat.lt_of_lt_of_le (by have:=SU.out;omega) BW1.out.size) BW2.out.size
 go_wp2_with (first
  | (refine wpList_load_mid rfl 22 (.tmp 3) rfl (e3) 0 rfl (bv S) _ R3.out Tryz.underlying22 rfl (size_l32 HSL.out) ?_)
  | (go_at_call 25;refine (HBC.out W2).mono ?_;rintro e W3 ⟨rfl,g1⟩;have BW3:Hid (Below W2.heap.size W2 W3):=g1;clear g1)
  | (refine wpList_store_mid rfl 22 (.tmp 2) (.tmp 11) rfl (D+1) 0 (bv Y).toArray rfl rfl (by rw [List.size_toArray,bv_length,HYL.out.len];exact there_mono TH2.out BW3.out LT2.out) (by rw [List.size_toArray];exact size_l32 HYL.out) (bv_one' _) ?_;simp only [List.toList_toArray]))
 have qq:(W3.setCells (D+1) 0 (bv Y)).rangeAt (D+1) 0 (bv Y):=World.rangeAt_setCells_same _ _ _ _ (by rw [bv_length,HYL.out.len];exact there_mono TH2.out BW3.out LT2.out)
 have hbl:Below w.heap.size w (W3.setCells (D+1) 0 (bv Y)):=below_setCells (by rw [HD.out];omega) _ _ (BZ.out.trans (BW3.out.mono BZ.out.size))
 refine bodyPost_ret (v := .agg (bv Y).toArray) ?_ rfl ⟨rfl,hbl⟩
 simp only [results,Tryz.results8]
 simp [Act.put,asAddr,run_loadVar_mid _ (D+1) 0 22 (bv Y) _ qq Tryz.underlying22 rfl (size_l32 HYL.out)]
theorem there_sub {w:World} {b n m:Nat} (h:w.there b 0 n) (hm:m≤n):w.there b 0 m:=fun j hj=>h j (by omega)
theorem there_hi {w:World} {b:Nat} (h:w.there b 0 64):w.there b 32 32:=fun j hj=>by
 have:=h (32+j) (by omega)
 rwa [Nat.zero_add] at this
def rs5f (e7 e9:Nat) (v:Value) (K:List Int):Nat→Option Value
 | 0=>some (.slice (some ⟨e9,0,none⟩) 32 32)
 | 1=>some (.slice (some ⟨e7,0,none⟩) 32 32)
 | 2=>some (v)
 | 4=>some (.agg (bv K).toArray)
 | _=>none
def rs8f (e9 e12:Nat):Nat→Option Value
 | 0=>some (.slice (some ⟨e12,0,none⟩) 32 64)
 | 1=>some (.slice (some ⟨e9,0,none⟩) 32 32)
 | _=>none
def rs9f (e11 e12:Nat):Nat→Option Value
 | 0=>some (.slice (some ⟨e12,32,none⟩) 32 32)
 | 1=>some (.slice (some ⟨e11,0,none⟩) 32 32)
 | _=>none
set_option maxHeartbeats 8000000 in
theorem rsign_any (s p:List Int) (hs:L32 s) (hp:Byt p) (hl:p.length≤140737488353000) (v:Value) (w:World) (hv:Sl w v p) :
  Calls Tryz.prog 9 #[.agg (bv s).toArray,v] w fun e w' => ∃ r t,L32 r∧L32 t∧e = .returned (.agg (bv (r ++ t)).toArray)∧r=Bs (hd [Ve.pf s,p])∧t=mu (hd [r,Bs (Ve.sk s),p]) (Ve.sk s) (hd [Ve.pf s,p])∧Below w.heap.size w w':=by
 have HS:Hid (L32 s):=hs
 have HV:Hid (Sl w v p):=hv
 have HHV:Hid (∀ W,Calls Tryz.prog 24 #[.agg (bv s).toArray] W fun e w' => ∃ v',e = .returned (.tuple #[.agg (bv (Ve.sk s)).toArray,v'])∧Ow W.heap.size w' v' (Ve.pf s)∧Below W.heap.size W w'):=fun W=>rhalves_any s hs W
 obtain ⟨S,hS⟩ : ∃ S,Ve.sk s=S:=⟨_,rfl⟩
 obtain ⟨P,hP⟩ : ∃ P,Ve.pf s=P:=⟨_,rfl⟩
 have HSL:Hid (L32 S):=by rw [←hS];exact Ve.sk_l32 _
 have HPL:Hid (L32 P):=by rw [←hP];exact Ve.pf_l32 _
 rw [hS,hP] at HHV ⊢
 obtain ⟨r1,hr1⟩ : ∃ r,hd [P,p]=r:=⟨_,rfl⟩
 have HR1:Hid (L32 r1):=by rw [←hr1];exact L32.hd _
 obtain ⟨A2,hA2⟩ : ∃ r,Bs S=r:=⟨_,rfl⟩
 have HA2:Hid (L32 A2):=by rw [←hA2];exact L32.bs _
 obtain ⟨R,hR⟩ : ∃ r,Bs r1=r:=⟨_,rfl⟩
 have HRL:Hid (L32 R):=by rw [←hR];exact L32.bs _
 obtain ⟨K,hK⟩ : ∃ r,hd [R,A2,p]=r:=⟨_,rfl⟩
 have HK:Hid (L32 K):=by rw [←hK];exact L32.hd _
 obtain ⟨T,hT⟩ : ∃ r,mu K S r1=r:=⟨_,rfl⟩
 have HT:Hid (L32 T):=by rw [←hT];exact L32.mu _ _ _
 have HRE:Hid (R=Bs (hd [P,p])∧T=mu (hd [R,Bs S,p]) S (hd [P,p])):=by show _∧_;rw [hr1,hA2,hK,hT,hR];exact ⟨rfl,rfl⟩
 have HKE:Hid (hd [R,A2,p]=K):=hK
 have HBYP:Hid (∀ m ∈ [P,p],Byt m):=fun m hm=>by
  simp only [List.mem_cons,List.not_mem_nil,or_false] at hm
  rcases hm with rfl | rfl
  ·exact HPL.out.byt
  ·exact hp
 have HBY3:Hid (∀ m ∈ [R,A2,p],Byt m):=fun m hm=>by
  simp only [List.mem_cons,List.not_mem_nil,or_false] at hm
  rcases hm with rfl | rfl | rfl
  ·exact HRL.out.byt
  ·exact HA2.out.byt
  ·exact hp
 have HN3:Hid ([R,A2,p].length≤1000):=by show 3≤1000;omega
 have HJ3:Hid ((joA [R,A2,p]).length≤140737488354000):=by
  show (([] ++ R) ++ A2 ++ p).length≤_
  rw [List.length_append,List.length_append,List.nil_append,HRL.out.len,HA2.out.len];omega
 have HJP:Hid ((joA [P,p]).length≤140737488354000):=by
  show (([] ++ P) ++ p).length≤_
  rw [List.length_append,List.nil_append,HPL.out.len];omega
 have HHP:Hid (∀ v' W,LL W v' [P,p]→Calls Tryz.prog 19 #[v'] W fun e w'=>e = .returned (.agg (bv r1).toArray)∧Below W.heap.size W w'):=fun v' W h=>rhashed_any [P,p] r1 hr1 HBYP.out (by show 2≤1000;omega) HJP.out v' W h
 have HB7:Hid (∀ W,Calls Tryz.prog 25 #[.agg (bv S).toArray] W fun e w'=>e = .returned (.agg (bv A2).toArray)∧Below W.heap.size W w'):=fun W=>by rw [←hA2];exact rbase_sl HSL.out W
 have HB9:Hid (∀ W,Calls Tryz.prog 25 #[.agg (bv r1).toArray] W fun e w'=>e = .returned (.agg (bv R).toArray)∧Below W.heap.size W w'):=fun W=>by rw [←hR];exact rbase_sl HR1.out W
 have HMU:Hid (∀ W,Calls Tryz.prog 26 #[.agg (bv K).toArray,.agg (bv S).toArray,.agg (bv r1).toArray] W fun e w'=>e = .returned (.agg (bv T).toArray)∧Below W.heap.size W w'):=fun W=>by rw [←hT];exact rmul_sl HK.out HSL.out HR1.out W
 have hz6:=zero_64
 obtain ⟨Z6,hZ6⟩ : ∃ Z,(bv (List.replicate 64 0)).toArray=Z:=⟨_,rfl⟩
 have hZs6:Z6.size=64:=by rw [←hZ6];simp [bv]
 have HZ6:Hid (Z6.size=64):=hZs6
 rw [hZ6] at hz6
 have ra:=range_alloc w (bv s) 22 (0,0)
 have hz:=zero_32
 obtain ⟨Z,hZ⟩ : ∃ Z,(bv (List.replicate 32 0)).toArray=Z:=⟨_,rfl⟩
 have hZs:Z.size=32:=by rw [←hZ];simp [bv]
 have HZS:Hid (Z.size=32):=hZs
 have HZE:Hid ((bv z32).toArray=Z):=hZ
 rw [hZ] at hz
 obtain ⟨A,hA⟩ : ∃ A,(bv s).toArray=A:=⟨_,rfl⟩
 rw [hA] at ra ⊢
 obtain ⟨U,hU⟩ : ∃ U,(w.alloc (.cells A 22)).alloc (.cells Z6 24)=U:=⟨_,rfl⟩
 have sU:U.heap.size=w.heap.size+2:=by rw [←hU];simp
 have bU:Below w.heap.size w U:=by rw [←hU];exact ((Below.refl _ w).alloc (Nat.le_refl _) _).alloc (by simp) _
 have rp:U.rangeAt w.heap.size 0 (bv s):=by rw [←hU];exact range_below ra ((Below.refl _ _).alloc (Nat.le_refl _) _) (by simp)
 have rr:U.heap[w.heap.size+1]? = some (.cells Z6 24 (0,0)):=by
  rw [←hU];show ((w.heap.push _).push _)[w.heap.size+1]? = _;rw [Array.getElem?_push,if_pos (by simp)]
 have thr:U.there (w.heap.size+1) 0 64:=there_of_row' rr 0 64 (by rw [HZ6.out];exact Nat.le_refl _)
 have BU:Hid (Below w.heap.size w U):=bU
 obtain ⟨D,hD⟩ : ∃ D,w.heap.size=D:=⟨_,rfl⟩
 have HD:Hid (w.heap.size=D):=hD
 rw [hD] at sU rp thr
 have SU:Hid (U.heap.size=D+2):=sU
 have THR:Hid (U.there (D+1) 0 64):=thr
 have RS_0:Hid (U.rangeAt D 0 (bv s)):=rp
 have LS_0:Hid (D<U.heap.size):=by show _<_;omega
 clear ra sU bU rp rr thr hA hs hS hZ hZs hZ6 hZs6 hP hr1 hA2 hR hK hT hp hv hl
 go_enter Tryz.func9,Tryz.ntmps9
 go_upto_region 1 with (fail)
 try rw [hU]
 try rw [hD]
 clear hU hD
--@1
 go_upto_region 2 with (first
  | (refine wpList_load_mid rfl 22 (.tmp 2) rfl (D) 0 rfl (bv s) _ RS_0.out Tryz.underlying22 rfl (size_l32 HS.out) ?_)
  | (go_at_call 24;refine (HHV.out U).mono ?_;rintro e W1 ⟨v1,rfl,g0,g1⟩;have O1:Hid (Ow U.heap.size W1 v1 P):=g0;have BW1:Hid (Below U.heap.size U W1):=g1;clear g0 g1)
  | (refine wpList_store_mid rfl 22 (.tmp 5) (.tmp 16) rfl W1.heap.size 0 (bv S).toArray rfl rfl (there_new W1 (show (bv S).toArray.size=Z.size by rw [List.size_toArray,bv_length,HSL.out.len,HZS.out])) (by rw [List.size_toArray];exact size_l32 HSL.out) (bv_one' _) ?_;simp only [List.toList_toArray]))
 obtain ⟨e5,he5⟩ : ∃ n,W1.heap.size=n:=⟨_,rfl⟩
 obtain ⟨V1,hV1⟩ : ∃ W,(W1.alloc (.cells Z 22)).setCells W1.heap.size 0 (bv S)=W:=⟨_,rfl⟩
 obtain ⟨l1,l2,l3⟩:=laid_row (by rw [bv_length,HSL.out.len,HZS.out]) (by rw [bv_length,HSL.out.len];omega) hV1
 have BV1:Hid (Below W1.heap.size W1 V1):=l2
 have R5_1:Hid (V1.rangeAt e5 0 (bv S)):=by rw [←he5];exact l1
 have L5_1:Hid (e5<V1.heap.size):=by rw [←he5];exact l3
 have O1V:Hid (Sl V1 v1 P):=(O1.out.below BV1.out).sl
 have BU1:Hid (Below U.heap.size U V1):=BW1.out.trans (BV1.out.mono BW1.out.size)
 try rw [hV1]
 try rw [he5]
 clear l1 l2 l3 hV1 he5 O1 BV1 BW1
--@2
 go_upto_region 3 with (first
  | (refine wpList_load_mid rfl 22 (.tmp 5) rfl (e5) 0 rfl (bv S) _ R5_1.out Tryz.underlying22 rfl (size_l32 HSL.out) ?_)
  | (go_at_call 25;refine (HB7.out V1).mono ?_;rintro e W2 ⟨rfl,g1⟩;have BW2:Hid (Below V1.heap.size V1 W2):=g1;clear g1)
  | (refine wpList_store_mid rfl 22 (.tmp 7) (.tmp 19) rfl W2.heap.size 0 (bv A2).toArray rfl rfl (there_new W2 (show (bv A2).toArray.size=Z.size by rw [List.size_toArray,bv_length,HA2.out.len,HZS.out])) (by rw [List.size_toArray];exact size_l32 HA2.out) (bv_one' _) ?_;simp only [List.toList_toArray]))
 obtain ⟨e7,he7⟩ : ∃ n,W2.heap.size=n:=⟨_,rfl⟩
 obtain ⟨V2,hV2⟩ : ∃ W,(W2.alloc (.cells Z 22)).setCells W2.heap.size 0 (bv A2)=W:=⟨_,rfl⟩
 obtain ⟨l1,l2,l3⟩:=laid_row (by rw [bv_length,HA2.out.len,HZS.out]) (by rw [bv_length,HA2.out.len];omega) hV2
 have BV2:Hid (Below W2.heap.size W2 V2):=l2
 have BV12:Hid (Below V1.heap.size V1 V2):=BW2.out.trans (BV2.out.mono BW2.out.size)
 have R7_2:Hid (V2.rangeAt e7 0 (bv A2)):=by rw [←he7];exact l1
 have L7_2:Hid (e7<V2.heap.size):=by rw [←he7];exact l3
 have R5_2:Hid (V2.rangeAt e5 0 (bv S)):=range_below R5_1.out BV12.out L5_1.out
 have L5_2:Hid (e5<V2.heap.size):=Nat.lt_of_lt_of_le L5_1.out BV12.out.size
 clear R5_1 L5_1
 have O2V:Hid (Sl V2 v1 P):=O1V.out.below BV12.out (Nat.le_refl _)
 have BU2:Hid (Below U.heap.size U V2):=BU1.out.trans (BV12.out.mono BU1.out.size)
 have HV2:Hid (Sl V2 v p):=HV.out.below (BU.out.trans (BU2.out.mono BU.out.size)) (Nat.le_refl _)
 try rw [hV2]
 try rw [he7]
 clear l1 l2 l3 hV2 he7 BV2 BW2 BV12 BU1 O1V
--@3
 obtain ⟨a1,c1,hv1,-,-⟩:=id O2V.out
 obtain ⟨a2,c2,hv2,-,-⟩:=id HV2.out
 have HLL:Hid (LL (V2.alloc (.cells #[v1,v] 23)) (.slice (some ⟨V2.heap.size,0,none⟩) 2 2) [P,p]):=ll_two _ O2V.out HV2.out
 have BLL:Hid (Below V2.heap.size V2 (V2.alloc (.cells #[v1,v] 23))):=(Below.refl _ V2).alloc (Nat.le_refl _) _
 obtain ⟨n1,hn1⟩ : ∃ n,P.length=n:=⟨_,rfl⟩
 obtain ⟨n2,hn2⟩ : ∃ n,p.length=n:=⟨_,rfl⟩
 rw [hn1] at hv1
 rw [hn2] at hv2
 subst hv1
 subst hv2
 go_upto_region 4 with (first
  | (go_at_call 19;refine (HHP.out _ _ HLL.out).mono ?_;rintro e W3 ⟨rfl,g1⟩;have BW3:Hid (Below V2.heap.size V2 W3):=Below.tr' BLL.out g1;clear g1)
  | (refine wpList_store_mid rfl 22 (.tmp 8) (.tmp 23) rfl W3.heap.size 0 (bv r1).toArray rfl rfl (there_new W3 (show (bv r1).toArray.size=Z.size by rw [List.size_toArray,bv_length,HR1.out.len,HZS.out])) (by rw [List.size_toArray];exact size_l32 HR1.out) (bv_one' _) ?_;simp only [List.toList_toArray]))
 obtain ⟨e8,he8⟩ : ∃ n,W3.heap.size=n:=⟨_,rfl⟩
 obtain ⟨V3,hV3⟩ : ∃ W,(W3.alloc (.cells Z 22)).setCells W3.heap.size 0 (bv r1)=W:=⟨_,rfl⟩
 obtain ⟨l1,l2,l3⟩:=laid_row (by rw [bv_length,HR1.out.len,HZS.out]) (by rw [bv_length,HR1.out.len];omega) hV3
 have BV3:Hid (Below W3.heap.size W3 V3):=l2
 have BV23:Hid (Below V2.heap.size V2 V3):=BW3.out.trans (BV3.out.mono BW3.out.size)
 have R8_3:Hid (V3.rangeAt e8 0 (bv r1)):=by rw [←he8];exact l1
 have L8_3:Hid (e8<V3.heap.size):=by rw [←he8];exact l3
 have R5_3:Hid (V3.rangeAt e5 0 (bv S)):=range_below R5_2.out BV23.out L5_2.out
 have L5_3:Hid (e5<V3.heap.size):=Nat.lt_of_lt_of_le L5_2.out BV23.out.size
 have R7_3:Hid (V3.rangeAt e7 0 (bv A2)):=range_below R7_2.out BV23.out L7_2.out
 have L7_3:Hid (e7<V3.heap.size):=Nat.lt_of_lt_of_le L7_2.out BV23.out.size
 clear R5_2 L5_2 R7_2 L7_2
 have BU3:Hid (Below U.heap.size U V3):=BU2.out.trans (BV23.out.mono BU2.out.size)
 try rw [hV3]
 try rw [he8]
 clear l1 l2 l3 hV3 he8 BV3 BW3 BV23 BU2 HLL BLL hn1
--@4
 go_upto_region 5 with (first
  | (refine wpList_load_mid rfl 22 (.tmp 8) rfl (e8) 0 rfl (bv r1) _ R8_3.out Tryz.underlying22 rfl (size_l32 HR1.out) ?_)
  | (go_at_call 25;refine (HB9.out V3).mono ?_;rintro e W4 ⟨rfl,g1⟩;have BW4:Hid (Below V3.heap.size V3 W4):=g1;clear g1)
  | (refine wpList_store_mid rfl 22 (.tmp 9) (.tmp 25) rfl W4.heap.size 0 (bv R).toArray rfl rfl (there_new W4 (show (bv R).toArray.size=Z.size by rw [List.size_toArray,bv_length,HRL.out.len,HZS.out])) (by rw [List.size_toArray];exact size_l32 HRL.out) (bv_one' _) ?_;simp only [List.toList_toArray]))
 obtain ⟨e9,he9⟩ : ∃ n,W4.heap.size=n:=⟨_,rfl⟩
 obtain ⟨V4,hV4⟩ : ∃ W,(W4.alloc (.cells Z 22)).setCells W4.heap.size 0 (bv R)=W:=⟨_,rfl⟩
 obtain ⟨l1,l2,l3⟩:=laid_row (by rw [bv_length,HRL.out.len,HZS.out]) (by rw [bv_length,HRL.out.len];omega) hV4
 have BV4:Hid (Below W4.heap.size W4 V4):=l2
 have BV34:Hid (Below V3.heap.size V3 V4):=BW4.out.trans (BV4.out.mono BW4.out.size)
 have R9_4:Hid (V4.rangeAt e9 0 (bv R)):=by rw [←he9];exact l1
 have L9_4:Hid (e9<V4.heap.size):=by rw [←he9];exact l3
 have R5_4:Hid (V4.rangeAt e5 0 (bv S)):=range_below R5_3.out BV34.out L5_3.out
 have L5_4:Hid (e5<V4.heap.size):=Nat.lt_of_lt_of_le L5_3.out BV34.out.size
 have R7_4:Hid (V4.rangeAt e7 0 (bv A2)):=range_below R7_3.out BV34.out L7_3.out
 have L7_4:Hid (e7<V4.heap.size):=Nat.lt_of_lt_of_le L7_3.out BV34.out.size
 have R8_4:Hid (V4.rangeAt e8 0 (bv r1)):=range_below R8_3.out BV34.out L8_3.out
 have L8_4:Hid (e8<V4.heap.size):=Nat.lt_of_lt_of_le L8_3.out BV34.out.size
 clear R5_3 L5_3 R7_3 L7_3 R8_3 L8_3
 have BU4:Hid (Below U.heap.size U V4):=BU3.out.trans (BV34.out.mono BU3.out.size)
 have HV5:Hid (Sl V4 (.slice a2 n2 c2) p):=HV.out.below (BU.out.trans (BU4.out.mono BU.out.size)) (Nat.le_refl _)
 try rw [hV4]
 try rw [he9]
 clear l1 l2 l3 hV4 he9 BV4 BW4 BV34 BU3
--@5
 refine RG.wp_rgn' (GI V4 (rs5f e7 e9 (.slice a2 n2 c2) K) (phV [R,A2,p]) [(5,6,bv K,bv z32)]) (by kernel_rfl) (by kernel_rfl) GI.start ?_ ?_
 ·refine ⟨?_,?_,?_,?_,?_,?_,?_,trivial⟩
  ·intro a W d V hI hd hpx hbk hf hp
   have hO':Below V4.heap.size V4 W:=hI.be
   refine RU.ob_val (v := .slice (some ⟨e9,0,none⟩) 32 32) rfl (RU.wanted_none rfl) (fun ev he hc => ?_) ⟨_,rfl,hI.step (phV_mono [R,A2,p]) (Below.refl _ _) 0 _ (by simp) (fun u hu=>by first | (cases hu;rfl) | cases hu) (trivial)⟩
   have q9:ev (.tmp 9) = .pointer (some ⟨e9,0,none⟩):=(he (.tmp 9)).trans (hf 9 rfl)
   simp only [qF,qD,qE,execOp,Option.map_some,Option.map_none];rw [q9]
   first | (go_simp;done) | (go_simp;rfl) | rfl
  ·intro a W d V hI hd hpx hbk hf hp
   have hO':Below V4.heap.size V4 W:=hI.be
   refine RU.ob_val (v := .slice (some ⟨e7,0,none⟩) 32 32) rfl (RU.wanted_none rfl) (fun ev he hc => ?_) ⟨_,rfl,hI.step (phV_mono [R,A2,p]) (Below.refl _ _) 1 _ (by simp) (fun u hu=>by first | (cases hu;rfl) | cases hu) (trivial)⟩
   have q7:ev (.tmp 7) = .pointer (some ⟨e7,0,none⟩):=(he (.tmp 7)).trans (hf 7 rfl)
   simp only [qF,qD,qE,execOp,Option.map_some,Option.map_none];rw [q7]
   first | (go_simp;done) | (go_simp;rfl) | rfl
  ·intro a W d V hI hd hpx hbk hf hp
   have hO':Below V4.heap.size V4 W:=hI.be
   refine RU.ob_val (v := .slice a2 n2 c2) rfl (RU.wanted_none rfl) (fun ev he hc => ?_) ⟨_,rfl,hI.step (phV_mono [R,A2,p]) (Below.refl _ _) 2 _ (by simp) (fun u hu=>by first | (cases hu;rfl) | cases hu) (trivial)⟩
   have q1:ev (.tmp 1) = .slice a2 n2 c2:=(he (.tmp 1)).trans (hf 1 rfl)
   simp only [qF,qD,qE,execOp,Option.map_some,Option.map_none];rw [q1]
   first | (go_simp;done) | (go_simp;rfl) | rfl
  ·intro a W d V hI hd hpx hbk hf hp
   have hO':Below V4.heap.size V4 W:=hI.be
   have e26:a.eval (.tmp 26) = .slice (some ⟨e9,0,none⟩) 32 32:=(hp 0 26 rfl).trans (hI.kn 0 _ rfl (hpx 0 rfl))
   have e27:a.eval (.tmp 27) = .slice (some ⟨e7,0,none⟩) 32 32:=(hp 1 27 rfl).trans (hI.kn 1 _ rfl (hpx 1 rfl))
   have e28:a.eval (.tmp 28) = .slice a2 n2 c2:=(hp 2 28 rfl).trans (hI.kn 2 _ rfl (hpx 2 rfl))
   have s0:Sl W (.slice (some ⟨e9,0,none⟩) 32 32) R:=sl_range HRL.out (range_below R9_4.out hO' L9_4.out) (Nat.lt_of_lt_of_le L9_4.out hO'.size)
   have s1:Sl W (.slice (some ⟨e7,0,none⟩) 32 32) A2:=sl_range HA2.out (range_below R7_4.out hO' L7_4.out) (Nat.lt_of_lt_of_le L7_4.out hO'.size)
   have s2:Sl W (.slice a2 n2 c2) p:=HV5.out.below hO' (Nat.le_refl _)
   obtain ⟨a0,c0,hv0,-,-⟩:=id s2
   have hb:Below W.heap.size W (W.alloc (.cells #[.slice (some ⟨e9,0,none⟩) 32 32,.slice (some ⟨e7,0,none⟩) 32 32,.slice a2 n2 c2] 23)):=(Below.refl _ W).alloc (Nat.le_refl _) _
   refine RU.ob_run (v := .slice (some ⟨W.heap.size,0,none⟩) 3 3) (w':=W.alloc (.cells #[.slice (some ⟨e9,0,none⟩) 32 32,.slice (some ⟨e7,0,none⟩) 32 32,.slice a2 n2 c2] 23)) rfl (RU.wanted_none rfl) (fun ev he hc => ?_) ⟨_,rfl,hI.step (phV_mono [R,A2,p]) hb 3 _ (by simp) (fun u hu=>by cases hu) (ll_three _ s0 s1 s2)⟩
   have h26:=(he (.tmp 26)).trans e26
   have h27:=(he (.tmp 27)).trans e27
   have h28:=(he (.tmp 28)).trans e28
   simp only [qF,qD,qE,execOp]
   simp only [List.map_toArray,List.map_cons,List.map_nil,h26,h27,h28]
   skip
   go_simp
  ·intro a W d V hI hd hpx hbk hf hp
   have hO':Below V4.heap.size V4 W:=hI.be
   have e29:a.eval (.tmp 29)=V 3:=hp 3 29 rfl
   have hno : ∀ x ∈ ([(5,6,bv K,bv z32)]:List Al),d x.2.1=false:=by simp only [List.mem_cons,List.not_mem_nil,or_false,forall_eq_or_imp,forall_eq];exact hbk 6 rfl
   refine RU.ob_call (g:=19) (args := #[V 3]) rfl (RU.wanted_none rfl) (fun ev he hc => ?_) ((rhashed_any [R,A2,p] K HKE.out HBY3.out HN3.out HJ3.out (V 3) W (hI.pr 3 (hpx 3 rfl) hno)).mono ?_)
   ·have h29:=(he (.tmp 29)).trans e29
    have hfn:=he (.func 19)
    simp only [qF,qD,qE,execOp,Option.map_some,Option.map_none]
    simp only [resolve,invoke,Sem.run_bind,Sem.run_pure,Result.andThen_ok,List.map_toArray,List.map_cons,List.map_nil,h29,hfn,Act.eval,hc]
    rfl
   ·rintro e' W2 ⟨rfl,hb2⟩
    exact ⟨_,rfl,⟨_,rfl,hI.step (phV_mono [R,A2,p]) hb2 4 _ (by simp) (fun u hu=>by first | (cases hu;rfl) | cases hu) (trivial)⟩⟩
  ·intro a W d V hI hd hpx hbk hf hp
   have hO':Below V4.heap.size V4 W:=hI.be
   refine RU.ob_run (v := .pointer (some ⟨W.heap.size,0,none⟩)) (w':=W.alloc (.cells (bv z32).toArray 22)) rfl (RU.wanted_none rfl) (fun ev he hc => ?_) ⟨_,rfl,hI.alloc (phV_mono [R,A2,p]) (5,6,bv K,bv z32) (by simp) 22 (hbk 6 rfl) (by simp) (by simp) rfl (fun _ _=>trivial)⟩
   simp only [qF,qD,qE,execOp]
   first | (go_simp;done) | (go_simp;rfl) | (go_simp;rw [HZE.out])
  ·intro a W d V hI hd hpx hbk hf hp
   have hO':Below V4.heap.size V4 W:=hI.be
   have d9:d 5=true:=hpx 5 rfl
   obtain ⟨b,hV,-,-,hth,-⟩:=hI.pt (5,6,bv K,bv z32) (by simp) d9
   have qp:a.eval (.tmp 10) = .pointer (some ⟨b,0,none⟩):=(hp 5 10 rfl).trans hV
   have qv:a.eval (.tmp 30) = .agg (bv K).toArray:=(hp 4 30 rfl).trans (hI.kn 4 _ rfl (hpx 4 rfl))
   exact RU.ob_op rfl (RU.wanted_none rfl) (wp_store_mid 22 (.tmp 10) (.tmp 30) rfl b 0 (bv K).toArray qp qv (by rw [List.size_toArray,(show (bv K).length=(bv z32).length by rw [bv_length,bv_length,HK.out.len,z32_l32.len])];exact hth) (by rw [List.size_toArray];exact size_l32 HK.out) (bv_one' _) ⟨_,rfl,by simp only [List.toList_toArray];exact hI.store (5,6,bv K,bv z32) (by simp) d9 hV _ (by simp) (by simp) rfl (show (bv K).length=(bv z32).length by rw [bv_length,bv_length,HK.out.len,z32_l32.len]) (by simp)⟩)
 intro V6 dV6 VV6 hal hI
 have BV6:Hid (Below V4.heap.size V4 V6):=hI.be
 have hs0:VV6 0 = .slice (some ⟨e9,0,none⟩) 32 32:=hI.kn 0 _ rfl (hal 0 (by decide))
 have hs1:VV6 1 = .slice (some ⟨e7,0,none⟩) 32 32:=hI.kn 1 _ rfl (hal 1 (by decide))
 have hs2:VV6 2 = .slice a2 n2 c2:=hI.kn 2 _ rfl (hal 2 (by decide))
 obtain ⟨u3,hs3⟩ : ∃ u,VV6 3=u:=⟨_,rfl⟩
 have hs4:VV6 4 = .agg (bv K).toArray:=hI.kn 4 _ rfl (hal 4 (by decide))
 obtain ⟨b5,hs5,hb5,hl5,-,hr5⟩:=hI.pt (5,6,bv K,bv z32) (by simp) (hal 5 (by decide))
 have hs5:VV6 5 = .pointer (some ⟨b5,0,none⟩):=hs5
 have R5V6:Hid (V6.rangeAt b5 0 (bv K)):=by have h9:dV6 6=true:=hal 6 (by decide);simp only [h9,if_true] at hr5;exact hr5
 have L5V6:Hid (b5<V6.heap.size):=hl5
 have G5V6:Hid (V4.heap.size≤b5):=hb5
 simp only [RU.lay,Act.put,hs0,hs1,hs2,hs3,hs4,hs5]
 simp only [qA,qB,qC]
 clear hI hal hs0 hs1 hs2 hs3 hs4 hs5 hb5 hl5 hr5
--@6
 have R5_5:Hid (V6.rangeAt e5 0 (bv S)):=range_below R5_4.out BV6.out L5_4.out
 have L5_5:Hid (e5<V6.heap.size):=Nat.lt_of_lt_of_le L5_4.out BV6.out.size
 have R7_5:Hid (V6.rangeAt e7 0 (bv A2)):=range_below R7_4.out BV6.out L7_4.out
 have L7_5:Hid (e7<V6.heap.size):=Nat.lt_of_lt_of_le L7_4.out BV6.out.size
 have R8_5:Hid (V6.rangeAt e8 0 (bv r1)):=range_below R8_4.out BV6.out L8_4.out
 have L8_5:Hid (e8<V6.heap.size):=Nat.lt_of_lt_of_le L8_4.out BV6.out.size
 have R9_5:Hid (V6.rangeAt e9 0 (bv R)):=range_below R9_4.out BV6.out L9_4.out
 have L9_5:Hid (e9<V6.heap.size):=Nat.lt_of_lt_of_le L9_4.out BV6.out.size
 clear R5_4 L5_4 R7_4 L7_4 R8_4 L8_4 R9_4 L9_4
 have RA_5:Hid (V6.rangeAt b5 0 (bv K)):=R5V6
 have LA_5:Hid (b5<V6.heap.size):=L5V6
 have BU6:Hid (Below U.heap.size U V6):=BU4.out.trans (BV6.out.mono BU4.out.size)
 go_upto_region 7 with (first
  | (refine wpList_load_mid rfl 22 (.tmp 10) rfl (b5) 0 rfl (bv K) _ RA_5.out Tryz.underlying22 rfl (size_l32 HK.out) ?_)
  | (refine wpList_load_mid rfl 22 (.tmp 5) rfl (e5) 0 rfl (bv S) _ R5_5.out Tryz.underlying22 rfl (size_l32 HSL.out) ?_)
  | (refine wpList_load_mid rfl 22 (.tmp 8) rfl (e8) 0 rfl (bv r1) _ R8_5.out Tryz.underlying22 rfl (size_l32 HR1.out) ?_)
  | (go_at_call 26;refine (HMU.out V6).mono ?_;rintro e W7 ⟨rfl,g1⟩;have BW7:Hid (Below V6.heap.size V6 W7):=g1;clear g1)
  | (refine wpList_store_mid rfl 22 (.tmp 11) (.tmp 34) rfl W7.heap.size 0 (bv T).toArray rfl rfl (there_new W7 (show (bv T).toArray.size=Z.size by rw [List.size_toArray,bv_length,HT.out.len,HZS.out])) (by rw [List.size_toArray];exact size_l32 HT.out) (bv_one' _) ?_;simp only [List.toList_toArray]))
 obtain ⟨e11,he11⟩ : ∃ n,W7.heap.size=n:=⟨_,rfl⟩
 obtain ⟨V7,hV7⟩ : ∃ W,(W7.alloc (.cells Z 22)).setCells W7.heap.size 0 (bv T)=W:=⟨_,rfl⟩
 obtain ⟨l1,l2,l3⟩:=laid_row (by rw [bv_length,HT.out.len,HZS.out]) (by rw [bv_length,HT.out.len];omega) hV7
 have BV7:Hid (Below W7.heap.size W7 V7):=l2
 have BV67:Hid (Below V6.heap.size V6 V7):=BW7.out.trans (BV7.out.mono BW7.out.size)
 have RT_6:Hid (V7.rangeAt e11 0 (bv T)):=by rw [←he11];exact l1
 have LT_6:Hid (e11<V7.heap.size):=by rw [←he11];exact l3
 have R9_6:Hid (V7.rangeAt e9 0 (bv R)):=range_below R9_5.out BV67.out L9_5.out
 have L9_6:Hid (e9<V7.heap.size):=Nat.lt_of_lt_of_le L9_5.out BV67.out.size
 clear R9_5 L9_5
 have BU7:Hid (Below U.heap.size U V7):=BU6.out.trans (BV67.out.mono BU6.out.size)
 try rw [hV7]
 try rw [he11]
 clear l1 l2 l3 hV7 he11 BV7 BW7 BV67 BU6
 go_upto_region 8 with (fail)
 obtain ⟨e12,he12⟩ : ∃ n,V7.heap.size=n:=⟨_,rfl⟩
 obtain ⟨X,hX⟩ : ∃ W,V7.alloc (.cells Z6 24)=W:=⟨_,rfl⟩
 have BX7:Hid (Below V7.heap.size V7 X):=by rw [←hX];exact (Below.refl _ V7).alloc (Nat.le_refl _) _
 have TH12:Hid (X.there e12 0 64):=by rw [←hX,←he12];exact there_new V7 HZ6.out.symm
 have L12:Hid (e12<X.heap.size):=by show _<_;rw [←hX,←he12];simp
 have G12:Hid (e9<e12∧e11<e12):=by show _∧_;rw [←he12];exact ⟨L9_6.out,LT_6.out⟩
 have R9_7:Hid (X.rangeAt e9 0 (bv R)):=range_below R9_6.out BX7.out L9_6.out
 have L9_7:Hid (e9<X.heap.size):=Nat.lt_of_lt_of_le L9_6.out BX7.out.size
 have RT_7:Hid (X.rangeAt e11 0 (bv T)):=range_below RT_6.out BX7.out LT_6.out
 have LT_7:Hid (e11<X.heap.size):=Nat.lt_of_lt_of_le LT_6.out BX7.out.size
 clear R9_6 L9_6 RT_6 LT_6
 have BXU:Hid (Below U.heap.size U X):=BU7.out.trans (BX7.out.mono BU7.out.size)
 have GD12:Hid (D+2≤e12):=by show _≤_;rw [←he12,←SU.out];exact BU7.out.size
 try rw [hX]
 try rw [he12]
 clear hX he12 BX7
 refine RG.wp_rgn' (GL X (rs8f e9 e12) (fun _ _ _=>True) [] 2 (e12) (0) (bv R)) (by kernel_rfl) (by kernel_rfl) GL.start ?_ ?_
 ·refine ⟨?_,?_,?_,trivial⟩
  ·refine GL.ob rfl ?_
   intro a W d V hI hd hpx hbk hf hp
   refine RU.ob_val (v := .slice (some ⟨e12,0,none⟩) 32 64) rfl (RU.wanted_none rfl) (fun ev he hc => ?_) ⟨_,rfl,hI.step (fun _ _ _ _ _ _=>trivial) (Below.refl _ _) 0 _ (by simp) (fun u hu=>by first | (cases hu;rfl) | cases hu) trivial⟩
   have q12:ev (.tmp 12) = .pointer (some ⟨e12,0,none⟩):=(he (.tmp 12)).trans (hf 12 rfl)
   simp only [qF,qD,qE,execOp,Option.map_some,Option.map_none];rw [q12]
   try simp only [hc]
   first | (go_simp;done) | (go_simp;rfl) | rfl
  ·refine GL.ob rfl ?_
   intro a W d V hI hd hpx hbk hf hp
   refine RU.ob_val (v := .slice (some ⟨e9,0,none⟩) 32 32) rfl (RU.wanted_none rfl) (fun ev he hc => ?_) ⟨_,rfl,hI.step (fun _ _ _ _ _ _=>trivial) (Below.refl _ _) 1 _ (by simp) (fun u hu=>by first | (cases hu;rfl) | cases hu) trivial⟩
   have q9:ev (.tmp 9) = .pointer (some ⟨e9,0,none⟩):=(he (.tmp 9)).trans (hf 9 rfl)
   simp only [qF,qD,qE,execOp,Option.map_some,Option.map_none];rw [q9]
   try simp only [hc]
   first | (go_simp;done) | (go_simp;rfl) | rfl
  ·refine GL.obs (fun a W d V hI hd hpx hbk hf hp => ?_)
   have hO':Below X.heap.size X W:=hI.be
   have q1:a.eval (.tmp 35) = .slice (some ⟨e12,0,none⟩) 32 64:=(hp 0 35 rfl).trans (hI.kn 0 _ rfl (hpx 0 rfl))
   have q2:a.eval (.tmp 36) = .slice (some ⟨e9,0,none⟩) 32 32:=(hp 1 36 rfl).trans (hI.kn 1 _ rfl (hpx 1 rfl))
   have hth:W.there (e12) (0) (bv R).length:=by rw [bv_length,HRL.out.len];exact there_sub (there_mono TH12.out hO' L12.out) (by omega)
   have hrun:=run_copy_cells (P:=Tryz.prog) W 23 23 3 5 (e12) (0) 32 64 ⟨e9,0,none⟩ 32 32 (bv R) Tryz.underlying23 size_u8' (by rw [bv_length,HRL.out.len];rfl) (fun j u hu=>by rw [addr_add0'];exact (range_below R9_7.out hO' L9_7.out) j u hu) (fun j hj=>(hth j hj).1) (fun j hj=>(hth j hj).2) (bv_one _)
   refine RU.ob_run (v:=goInt (bv R).length) (w':=W.setCells (e12) (0) (bv R)) rfl (RU.wanted_none rfl) (fun ev he hc => ?_) ⟨_,rfl,GL.stored hI rfl _⟩
   have e1:=(he (.tmp 35)).trans q1
   have e2:=(he (.tmp 36)).trans q2
   simp only [qF,qD,qE,execOp,resolve,invoke,builtin,Sem.run_bind,Sem.run_pure,Result.andThen_ok,List.map_toArray,List.map_cons,List.map_nil,e1,e2,hrun]
 intro W8x dW8 VW8 hal hG
 obtain ⟨hK,W8,W8y,hyW8⟩:=hG.fin (hal 2 (by decide))
 subst hyW8
 have BW8:Hid (Below X.heap.size X W8):=W8y
 have hs0:VW8 0 = .slice (some ⟨e12,0,none⟩) 32 64:=hK 0 _ rfl (hal 0 (by decide))
 have hs1:VW8 1 = .slice (some ⟨e9,0,none⟩) 32 32:=hK 1 _ rfl (hal 1 (by decide))
 obtain ⟨u2W8,hs2⟩ : ∃ u,VW8 2=u:=⟨_,rfl⟩
 simp only [RU.lay,Act.put,hs0,hs1,hs2]
 simp only [qA,qB,qC]
 clear hG hK hal W8y hs0 hs1 hs2
 obtain ⟨Y,hY⟩ : ∃ Y,W8.setCells e12 0 (bv R)=Y:=⟨_,rfl⟩
 have sY:Y.heap.size=W8.heap.size:=by rw [←hY];exact size_setC _ _ _ _
 have th8:=there_mono TH12.out BW8.out L12.out
 have RY1:Hid (Y.rangeAt e12 0 (bv R)):=by rw [←hY];exact World.rangeAt_setCells_same _ _ _ _ (by rw [bv_length,HRL.out.len];exact there_sub th8 (by omega))
 have THY:Hid (Y.there e12 0 64):=by rw [←hY];exact World.there_setCells th8 _ _ _
 have RTY:Hid (Y.rangeAt e11 0 (bv T)):=by rw [←hY];exact World.rangeAt_setCells_apart (range_below RT_7.out BW8.out LT_7.out) _ _ _ (.inl (by have:=G12.out.2;omega))
 have LTY:Hid (e11<Y.heap.size):=by show _<_;rw [sY];exact Nat.lt_of_lt_of_le LT_7.out BW8.out.size
 have LY12:Hid (e12<Y.heap.size):=by show _<_;rw [sY];exact Nat.lt_of_lt_of_le L12.out BW8.out.size
 have BYU:Hid (Below U.heap.size U Y):=by rw [←hY];exact below_setCells (by rw [SU.out];exact GD12.out) _ _ (BXU.out.trans (BW8.out.mono BXU.out.size))
 rw [hY]
 clear hY sY th8
 go_upto_region 9 with (fail)
 refine RG.wp_rgn' (GL Y (rs9f e11 e12) (fun _ _ _=>True) [] 2 (e12) (32) (bv T)) (by kernel_rfl) (by kernel_rfl) GL.start ?_ ?_
 ·refine ⟨?_,?_,?_,trivial⟩
  ·refine GL.ob rfl ?_
   intro a W d V hI hd hpx hbk hf hp
   refine RU.ob_val (v := .slice (some ⟨e12,32,none⟩) 32 32) rfl (RU.wanted_none rfl) (fun ev he hc => ?_) ⟨_,rfl,hI.step (fun _ _ _ _ _ _=>trivial) (Below.refl _ _) 0 _ (by simp) (fun u hu=>by first | (cases hu;rfl) | cases hu) trivial⟩
   have q12:ev (.tmp 12) = .pointer (some ⟨e12,0,none⟩):=(he (.tmp 12)).trans (hf 12 rfl)
   simp only [qF,qD,qE,execOp,Option.map_some,Option.map_none];rw [q12]
   try simp only [hc]
   first | (go_simp;done) | (go_simp;rfl) | rfl
  ·refine GL.ob rfl ?_
   intro a W d V hI hd hpx hbk hf hp
   refine RU.ob_val (v := .slice (some ⟨e11,0,none⟩) 32 32) rfl (RU.wanted_none rfl) (fun ev he hc => ?_) ⟨_,rfl,hI.step (fun _ _ _ _ _ _=>trivial) (Below.refl _ _) 1 _ (by simp) (fun u hu=>by first | (cases hu;rfl) | cases hu) trivial⟩
   have q11:ev (.tmp 11) = .pointer (some ⟨e11,0,none⟩):=(he (.tmp 11)).trans (hf 11 rfl)
   simp only [qF,qD,qE,execOp,Option.map_some,Option.map_none];rw [q11]
   try simp only [hc]
   first | (go_simp;done) | (go_simp;rfl) | rfl
  ·refine GL.obs (fun a W d V hI hd hpx hbk hf hp => ?_)
   have hO':Below Y.heap.size Y W:=hI.be
   have q1:a.eval (.tmp 38) = .slice (some ⟨e12,32,none⟩) 32 32:=(hp 0 38 rfl).trans (hI.kn 0 _ rfl (hpx 0 rfl))
   have q2:a.eval (.tmp 39) = .slice (some ⟨e11,0,none⟩) 32 32:=(hp 1 39 rfl).trans (hI.kn 1 _ rfl (hpx 1 rfl))
   have hth:W.there (e12) (32) (bv T).length:=by rw [bv_length,HT.out.len];exact there_hi (there_mono THY.out hO' LY12.out)
   have hrun:=run_copy_cells (P:=Tryz.prog) W 23 23 3 5 (e12) (32) 32 32 ⟨e11,0,none⟩ 32 32 (bv T) Tryz.underlying23 size_u8' (by rw [bv_length,HT.out.len];rfl) (fun j u hu=>by rw [addr_add0'];exact (range_below RTY.out hO' LTY.out) j u hu) (fun j hj=>(hth j hj).1) (fun j hj=>(hth j hj).2) (bv_one _)
   refine RU.ob_run (v:=goInt (bv T).length) (w':=W.setCells (e12) (32) (bv T)) rfl (RU.wanted_none rfl) (fun ev he hc => ?_) ⟨_,rfl,GL.stored hI rfl _⟩
   have e1:=(he (.tmp 38)).trans q1
   have e2:=(he (.tmp 39)).trans q2
   simp only [qF,qD,qE,execOp,resolve,invoke,builtin,Sem.run_bind,Sem.run_pure,Result.andThen_ok,List.map_toArray,List.map_cons,List.map_nil,e1,e2,hrun]
 intro W9x dW9 VW9 hal hG
 obtain ⟨hK,W9,W9y,hyW9⟩:=hG.fin (hal 2 (by decide))
 subst hyW9
 have BW9:Hid (Below Y.heap.size Y W9):=W9y
 have hs0:VW9 0 = .slice (some ⟨e12,32,none⟩) 32 32:=hK 0 _ rfl (hal 0 (by decide))
 have hs1:VW9 1 = .slice (some ⟨e11,0,none⟩) 32 32:=hK 1 _ rfl (hal 1 (by decide))
 obtain ⟨u2W9,hs2⟩ : ∃ u,VW9 2=u:=⟨_,rfl⟩
 simp only [RU.lay,Act.put,hs0,hs1,hs2]
 simp only [qA,qB,qC]
 clear hG hK hal W9y hs0 hs1 hs2
 obtain ⟨Y2,hY2⟩ : ∃ Y,W9.setCells e12 32 (bv T)=Y:=⟨_,rfl⟩
 have sY2:Y2.heap.size=W9.heap.size:=by rw [←hY2];exact size_setC _ _ _ _
 have RC:Hid (Y2.rangeAt e12 0 (bv (R ++ T))):=by
  refine range_cat HRL.out ?_ ?_
  ·rw [←hY2];exact World.rangeAt_setCells_apart (range_below RY1.out BW9.out LY12.out) _ _ _ (.inr (.inl (by rw [bv_length,HRL.out.len];omega)))
  ·rw [←hY2];exact World.rangeAt_setCells_same _ _ _ _ (by rw [bv_length,HT.out.len];exact there_hi (there_mono THY.out BW9.out LY12.out))
 have BY2U:Hid (Below U.heap.size U Y2):=by rw [←hY2];exact below_setCells (by rw [SU.out];exact GD12.out) _ _ (BYU.out.trans (BW9.out.mono BYU.out.size))
 have TR2:Hid (Y2.there (D+1) 0 64):=there_mono THR.out BY2U.out (by have:=SU.out;omega)
 have HCL:Hid ((bv (R ++ T)).length=64):=by show _=_;rw [bv_length,List.length_append,HRL.out.len,HT.out.len]
 rw [hY2]
 clear hY2 sY2
 obtain ⟨C,hC⟩ : ∃ C,bv (R ++ T)=C:=⟨_,rfl⟩
 have HC1:Hid (C.toArray.all (·.oneCell')=true):=by rw [←hC];exact bv_one' _
 have HCE:Hid (bv (R ++ T)=C):=hC
 rw [hC] at RC HCL
 clear hC
 go_wp2_with (first
  | (refine wpList_load_mid rfl 24 (.tmp 12) rfl e12 0 rfl C _ RC.out Tryz.underlying24 rfl (by rw [HCL.out];exact size64) ?_)
  | (refine wpList_store_mid rfl 24 (.tmp 4) (.tmp 41) rfl (D+1) 0 C.toArray rfl rfl (by rw [List.size_toArray,HCL.out];exact TR2.out) (by rw [List.size_toArray,HCL.out];exact size64) HC1.out ?_;simp only [List.toList_toArray]))
 have qq:(Y2.setCells (D+1) 0 C).rangeAt (D+1) 0 C:=World.rangeAt_setCells_same _ _ _ _ (by rw [HCL.out];exact TR2.out)
 have hbl:Below w.heap.size w (Y2.setCells (D+1) 0 C):=below_setCells (by rw [HD.out];omega) _ _ (BU.out.trans (BY2U.out.mono BU.out.size))
 refine bodyPost_ret (v := .agg C.toArray) ?_ rfl ⟨R,T,HRL.out,HT.out,by rw [HCE.out],HRE.out.1,HRE.out.2,hbl⟩
 simp only [results,Tryz.results9]
 simp [Act.put,asAddr,run_loadVar_mid _ (D+1) 0 24 C _ qq Tryz.underlying24 rfl (by rw [HCL.out];exact size64)]
end Go.Proofs.YtkhjnjlinfbfoaaGreatDoor.Wi
