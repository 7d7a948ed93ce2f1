/- VrfKnown, walked. -/
import Derived.Test.YtmaehekekkfpmaaDoorVrL
set_option linter.unusedSimpArgs false
set_option linter.unusedVariables false
namespace Go.Proofs.YtmaehekekkfpmaaDoor.Wi
open Go Go.RowKit
set_option maxRecDepth 100000
set_option maxHeartbeats 4000000 in
theorem known_any (w:World) (hg:Glo Ve.MA w):Calls Tryd.prog 3 #[] w fun e w'=>e = .returned (.bool true)∧Below w.heap.size w w':=by
  have hz:=zero_80
  obtain ⟨Z,hZ⟩ : ∃ Z,(bv (List.replicate 80 0)).toArray=Z:=⟨_,rfl⟩
  have hZs:Z.size=80:=by rw [←hZ];simp [bv]
  have HZS:Hid (Z.size=80):=hZs
  rw [hZ] at hz
  have hz6:=zero_64
  obtain ⟨Z6,hZ6⟩ : ∃ Z,(bv (List.replicate 64 0)).toArray=Z:=⟨_,rfl⟩
  have hZs6:Z6.size=64:=by rw [←hZ6];simp [bv]
  have HZ6:Hid (Z6.size=64):=hZs6
  rw [hZ6] at hz6
  have HG:Hid (Glo Ve.MA w):=hg
  have HPX:Hid (∀ W,Glo Ve.MA W→Calls Tryd.prog 4 #[.agg (bv exS).toArray,.slice none 0 0] W fun e w'=>e = .returned (.tuple #[.agg (bv exR).toArray,.int .i64 0])∧Below W.heap.size W w'):=proveX
  have HSD:Hid (∀ W,Glo Ve.MA W→Calls Tryd.prog 5 #[] W fun e w'=>e = .returned (.agg (bv exS).toArray)∧Below W.heap.size W w'):=seed_sl
  have HAW:Hid (∀ W,Glo Ve.MA W→Calls Tryd.prog 7 #[] W fun e w'=>e = .returned (.bool true)∧Below W.heap.size W w'):=awake_any
  have HOT:Hid (∀ W,Glo Ve.MA W→Calls Tryd.prog 6 #[.agg (bv exR).toArray] W fun e w'=>e = .returned (.tuple #[.agg (bv exO).toArray,.int .i64 0])∧Below W.heap.size W w'):=fun W hw=>by
    have:=output_any exR exR_len exR_byt W hw
    rw [e_oV,e_oE] at this
    exact this
  have hbt:Tryd.prog.built 22 [(0,.int .u8 134),(1,.int .u8 87),(2,.int .u8 16),(3,.int .u8 102),(4,.int .u8 144),(5,.int .u8 181),(6,.int .u8 82),(7,.int .u8 98),(8,.int .u8 69),(9,.int .u8 169),(10,.int .u8 43),(11,.int .u8 0),(12,.int .u8 59),(13,.int .u8 176),(14,.int .u8 121),(15,.int .u8 204),(16,.int .u8 209),(17,.int .u8 169),(18,.int .u8 33),(19,.int .u8 48),(20,.int .u8 71),(21,.int .u8 118),(22,.int .u8 113),(23,.int .u8 246),(24,.int .u8 252),(25,.int .u8 1),(26,.int .u8 173),(27,.int .u8 22),(28,.int .u8 242),(29,.int .u8 111),(30,.int .u8 114),(31,.int .u8 63),(32,.int .u8 38),(33,.int .u8 248),(34,.int .u8 165),(35,.int .u8 124),(36,.int .u8 202),(37,.int .u8 237),(38,.int .u8 116),(39,.int .u8 238),(40,.int .u8 27),(41,.int .u8 25),(42,.int .u8 11),(43,.int .u8 237),(44,.int .u8 31),(45,.int .u8 71),(46,.int .u8 157),(47,.int .u8 151),(48,.int .u8 39),(49,.int .u8 210),(50,.int .u8 208),(51,.int .u8 249),(52,.int .u8 176),(53,.int .u8 5),(54,.int .u8 166),(55,.int .u8 228),(56,.int .u8 86),(57,.int .u8 163),(58,.int .u8 93),(59,.int .u8 79),(60,.int .u8 176),(61,.int .u8 218),(62,.int .u8 171),(63,.int .u8 18),(64,.int .u8 104),(65,.int .u8 161),(66,.int .u8 176),(67,.int .u8 219),(68,.int .u8 16),(69,.int .u8 131),(70,.int .u8 109),(71,.int .u8 152),(72,.int .u8 38),(73,.int .u8 165),(74,.int .u8 40),(75,.int .u8 202),(76,.int .u8 118),(77,.int .u8 86),(78,.int .u8 120),(79,.int .u8 5)]=some (bv exR).toArray:=by kernel_rfl
  have HBT:Hid _:=hbt
  obtain ⟨s,hs⟩ : ∃ s,exS=s:=⟨_,rfl⟩
  obtain ⟨R,hR⟩ : ∃ s,exR=s:=⟨_,rfl⟩
  obtain ⟨O,hO⟩ : ∃ s,exO=s:=⟨_,rfl⟩
  have HRL:Hid (R.length=80):=by rw [←hR];exact exR_len
  have HOL:Hid (O.length=64):=by rw [←hO];rfl
  have HO0:Hid (O[0]? = some 144∧O[1]? = some 207∧O[2]? = some 29∧O[63]? = some 174):=by rw [←hO];exact ⟨rfl,rfl,rfl,rfl⟩
  rw [hs] at HPX HSD
  rw [hR] at HPX HOT HBT
  rw [hO] at HOT
  clear hs hR hO hg hZ hZs hZ6 hZs6 hbt
  go_enter Tryd.func3,Tryd.ntmps3
  go_upto_region 2 with (first
    | (go_at_call 5;refine (HSD.out w HG.out).mono ?_;rintro e W1 ⟨rfl,g1⟩;have B1:Hid (Below w.heap.size w W1):=g1;have G1:Hid (Glo Ve.MA W1):=glo_below HG.out g1;clear g1)
    | (go_at_call 4;refine (HPX.out W1 G1.out).mono ?_;rintro e W2 ⟨rfl,g1⟩;have B2:Hid (Below w.heap.size w W2):=Below.tr' B1.out g1;clear g1)
    | (refine wpList_store_mid rfl 22 (.tmp 1) (.tmp 9) rfl W2.heap.size 0 (bv R).toArray rfl rfl (new_bv W2 (HRL.out) HZS.out) (size_bv (HRL.out) size80) (bv_one' _) ?_;simp only [List.toList_toArray]))
  obtain ⟨e1,he1⟩ : ∃ n,W2.heap.size=n:=⟨_,rfl⟩
  obtain ⟨W3,hW3⟩ : ∃ W,(W2.alloc (.cells Z 22)).setCells W2.heap.size 0 (bv R)=W:=⟨_,rfl⟩
  obtain ⟨l1,l2,l3⟩:=laid_row (by rw [bv_length,HRL.out,HZS.out]) (by rw [bv_length,HRL.out];omega) hW3
  have BW3:Hid (Below W2.heap.size W2 W3):=l2
  have R1:Hid (W3.rangeAt e1 0 (bv R)):=by rw [←he1];exact l1
  have L1:Hid (e1<W3.heap.size):=by rw [←he1];exact l3
  try rw [hW3]
  try rw [he1]
  clear l1 l2 l3 hW3 he1
  have BA:Hid (Below w.heap.size w W3):=Below.tr' B2.out BW3.out
  have G3:Hid (Glo Ve.MA W3):=glo_below HG.out BA.out
  clear B1 B2 BW3
  go_upto_region 3 with (first
    | (refine wpList_load_mid rfl 22 (.tmp 1) rfl (e1) 0 rfl (bv R) _ R1.out Tryd.underlying22 rfl (by rw [bv_length,HRL.out];exact size80) ?_)
    | (go_at_call 6;refine (HOT.out W3 G3.out).mono ?_;rintro e W4 ⟨rfl,g1⟩;have BW4:Hid (Below W3.heap.size W3 W4):=g1;clear g1)
    | (refine wpList_store_mid rfl 28 (.tmp 3) (.tmp 14) rfl W4.heap.size 0 (bv O).toArray rfl rfl (new_bv W4 (HOL.out) HZ6.out) (size_bv (HOL.out) size64) (bv_one' _) ?_;simp only [List.toList_toArray]))
  obtain ⟨e3,he3⟩ : ∃ n,W4.heap.size=n:=⟨_,rfl⟩
  obtain ⟨W5,hW5⟩ : ∃ W,(W4.alloc (.cells Z6 28)).setCells W4.heap.size 0 (bv O)=W:=⟨_,rfl⟩
  obtain ⟨l1,l2,l3⟩:=laid_row (by rw [bv_length,HOL.out,HZ6.out]) (by rw [bv_length,HOL.out];omega) hW5
  have BW5:Hid (Below W4.heap.size W4 W5):=l2
  have R3:Hid (W5.rangeAt e3 0 (bv O)):=by rw [←he3];exact l1
  have L3:Hid (e3<W5.heap.size):=by rw [←he3];exact l3
  try rw [hW5]
  try rw [he3]
  clear l1 l2 l3 hW5 he3
  have B35:Hid (Below W3.heap.size W3 W5):=Below.tr' BW4.out BW5.out
  have R1a:Hid (W5.rangeAt (e1) 0 (bv R)):=range_below R1.out B35.out L1.out
  have L1a:Hid (e1<W5.heap.size):=Nat.lt_of_lt_of_le L1.out B35.out.size
  clear R1 L1
  have BB:Hid (Below w.heap.size w W5):=Below.tr' BA.out B35.out
  clear BW4 BW5 B35 BA
  go_upto_region 6 with (first
    | (refine wpList_buildTo rfl 22 _ rfl (some 22) rfl (bv R).toArray (by simp only [List.map_toArray,List.map_cons,List.map_nil];exact HBT.out) ?_)
    | (refine wpList_store_mid rfl 22 (.tmp 5) (.tmp 22) rfl W5.heap.size 0 (bv R).toArray rfl rfl (new_bv W5 (HRL.out) HZS.out) (size_bv (HRL.out) size80) (bv_one' _) ?_;simp only [List.toList_toArray]))
  obtain ⟨e5,he5⟩ : ∃ n,W5.heap.size=n:=⟨_,rfl⟩
  obtain ⟨W6,hW6⟩ : ∃ W,(W5.alloc (.cells Z 22)).setCells W5.heap.size 0 (bv R)=W:=⟨_,rfl⟩
  obtain ⟨l1,l2,l3⟩:=laid_row (by rw [bv_length,HRL.out,HZS.out]) (by rw [bv_length,HRL.out];omega) hW6
  have BW6:Hid (Below W5.heap.size W5 W6):=l2
  have R5:Hid (W6.rangeAt e5 0 (bv R)):=by rw [←he5];exact l1
  have L5:Hid (e5<W6.heap.size):=by rw [←he5];exact l3
  try rw [hW6]
  try rw [he5]
  clear l1 l2 l3 hW6 he5
  have R1ab:Hid (W6.rangeAt (e1) 0 (bv R)):=range_below R1a.out BW6.out L1a.out
  have L1ab:Hid (e1<W6.heap.size):=Nat.lt_of_lt_of_le L1a.out BW6.out.size
  have R3b:Hid (W6.rangeAt (e3) 0 (bv O)):=range_below R3.out BW6.out L3.out
  have L3b:Hid (e3<W6.heap.size):=Nat.lt_of_lt_of_le L3.out BW6.out.size
  clear R1a L1a R3 L3
  have BC:Hid (Below w.heap.size w W6):=Below.tr' BB.out BW6.out
  have G6:Hid (Glo Ve.MA W6):=glo_below HG.out BC.out
  clear BW6 BB
  have HCE:Hid (∀ W:World,(binOp .eql 22 (.agg (bv R).toArray) (.agg (bv R).toArray)).run Tryd.prog W = .ok (.bool true) W):=fun W=>by rw [eqlN Tryd.underlying22 HRL.out HRL.out W,decide_eq_true rfl]
  go_wp2_with (first
    | (go_at_call 7;refine (HAW.out W6 G6.out).mono ?_;rintro e W7 ⟨rfl,g1⟩;have BW7:Hid (Below W6.heap.size W6 W7):=g1
       have R1c:Hid (W7.rangeAt e1 0 (bv R)):=range_below R1ab.out g1 L1ab.out
       have R5c:Hid (W7.rangeAt e5 0 (bv R)):=range_below R5.out g1 L5.out
       have R3c:Hid (W7.rangeAt e3 0 (bv O)):=range_below R3b.out g1 L3b.out
       have c0:W7.cell? ⟨e3,0,none⟩=some (.int .u8 144):=range_at R3c.out 0 144 HO0.out.1
       have c1:W7.cell? ⟨e3,1,none⟩=some (.int .u8 207):=range_at R3c.out 1 207 HO0.out.2.1
       have c2:W7.cell? ⟨e3,2,none⟩=some (.int .u8 29):=range_at R3c.out 2 29 HO0.out.2.2.1
       have c3:W7.cell? ⟨e3,63,none⟩=some (.int .u8 174):=range_at R3c.out 63 174 HO0.out.2.2.2
       clear g1)
    | (refine load_g rfl 22 (.tmp 1) rfl (e1) 0 rfl (bv R) _ R1c.out Tryd.underlying22 rfl (by rw [bv_length,HRL.out];exact size80) ?_)
    | (refine load_g rfl 22 (.tmp 5) rfl (e5) 0 rfl (bv R) _ R5c.out Tryd.underlying22 rfl (by rw [bv_length,HRL.out];exact size80) ?_)
    | (refine wp_cmp .eql 22 22 (.tmp 25) (.tmp 26) rfl rfl _ _ (.bool true) rfl rfl (eqg_80 _ _ _ _ _ W7) (HCE.out W7) ?_))
  go_ret
  exact ⟨rfl,Below.tr' BC.out BW7.out⟩
end Go.Proofs.YtmaehekekkfpmaaDoor.Wi
