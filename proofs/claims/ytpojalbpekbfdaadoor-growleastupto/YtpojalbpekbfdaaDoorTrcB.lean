/- Package tree: LeafNode. -/
import Derived.Test.YtpojalbpekbfdaaDoorTraA
import Derived.Test.YtpojalbpekbfdaaDoorShaP
namespace Go.Proofs.YtpojalbpekbfdaaDoor
open Go Go.RowKit
set_option linter.unusedSimpArgs false
set_option linter.unusedVariables false
set_option maxRecDepth 100000

/-- A leaf's cells. -/
def lf (p q : List Int) : List Value := bv p ++ bv q
theorem lf_length {p q : List Int} (hp : L32 p) (hq : L32 q) : (lf p q).length = 64 := by simp [lf, bv_length, hp.len, hq.len]
/-- The node of a leaf. -/
def lnd (p q : List Int) : Nd := ⟨256, p, hs ([1] ++ p ++ q)⟩
def lfΩ (U : World) (D : Nat) (x : Nd) : Nat → (Nat → Value) → World → Prop
  | 0, _, W => Below U.heap.size U W
  | _ + 1, _, W => ∃ W0, Below U.heap.size U W0 ∧ W = W0.setCells D 0 (nc x)
theorem lf_p {w : World} {b o : Nat} {p q : List Int} (h : w.rangeAt b o (lf p q)) : w.rangeAt b o (bv p) := fun j v hj => h j v (by
  unfold lf; rw [List.getElem?_append_left (List.getElem?_eq_some_iff.1 hj).1]; exact hj)
theorem lf_q {w : World} {b o : Nat} {p q : List Int} (hp : L32 p) (h : w.rangeAt b o (lf p q)) : w.rangeAt b (o + 32) (bv q) := fun j v hj => by
  have := h (32 + j) v (by unfold lf; rw [List.getElem?_append_right (by rw [bv_length, hp.len]; omega), bv_length, hp.len, show 32 + j - 32 = j by omega]; exact hj)
  rwa [show o + 32 + j = o + (32 + j) by omega]
def lf3f (D : Nat) (p H : List Int) (v2 : Value) : Nat → Value
  | 0 => .pointer (some ⟨D, 0, none⟩)
  | 1 => .agg (bv p).toArray
  | 2 => v2
  | 3 => .agg (bv H).toArray
  | 4 => .agg (nc ⟨256, p, H⟩).toArray
  | 5 => undef
  | _ => undef
set_option maxHeartbeats 2000000 in
theorem leafNode_any (p q : List Int) (hp : L32 p) (hq : L32 q) (w : World) (hT : Tb w) :
    Calls Tryd.prog 47 #[.agg (lf p q).toArray] w fun e w' => e = .returned (.agg (nc (lnd p q)).toArray) ∧ Below w.heap.size w w' := by
  have hz := zero_nd
  have ra := range_alloc w (lf p q) 46 (0, 0)
  have s1 : (lf p q).toArray.size = 64 := by rw [List.size_toArray]; exact lf_length hp hq
  obtain ⟨A, hA⟩ : ∃ A, (lf p q).toArray = A := ⟨_, rfl⟩
  obtain ⟨Z, hZ⟩ : ∃ Z, (nc ndz).toArray = Z := ⟨_, rfl⟩
  have hZs : Z.size = 65 := by rw [← hZ]; exact nc_size ndz_ok
  rw [hA] at ra s1 ⊢
  rw [hZ] at hz
  obtain ⟨U, hU⟩ : ∃ U, (w.alloc (.cells A 46)).alloc (.cells Z 44) = U := ⟨_, rfl⟩
  have sU : U.heap.size = w.heap.size + 2 := by rw [← hU]; simp
  have bU : Below w.heap.size w U := by rw [← hU]; exact ((Below.refl _ w).alloc (Nat.le_refl _) _).alloc (by simp) _
  have rz : U.heap[w.heap.size + 1]? = some (.cells Z 44 (0, 0)) := by rw [← hU]; show ((w.heap.push _).push _)[w.heap.size + 1]? = _; rw [Array.getElem?_push, if_pos (by simp)]
  have rp : U.rangeAt w.heap.size 0 (lf p q) := by rw [← hU]; exact range_below ra ((Below.refl _ _).alloc (Nat.le_refl _) _) (by simp)
  obtain ⟨H, hH⟩ : ∃ H, hs ([1] ++ p ++ q) = H := ⟨_, rfl⟩
  have HJ : Hid (lnd p q = ⟨256, p, H⟩) := by show lnd p q = _; unfold lnd; rw [hH]
  have HHL : Hid (L32 H) := by rw [← hH]; exact hs_l32 _
  have HP : Hid (L32 p) := hp
  have HQ : Hid (L32 q) := hq
  have HBN : Hid (∀ W : World, (Instr.build 44 #[(0, .int .i64 256), (1, .agg (bv p).toArray), (2, .agg (bv H).toArray)]).run Tryd.prog W = .ok (.agg (nc ⟨256, p, H⟩).toArray) W) := build_nd 256 HP.out HHL.out
  have HSU : Hid (∀ (v : Value) (W : World), Tb W → Sq W v ([1] ++ p ++ q) → Calls Tryd.prog 66 #[v] W fun e w' => e = .returned (.agg (bv H).toArray) ∧ Below W.heap.size W w') := fun v W h1 h2 => sum256_sl _ H v hH (by rw [List.length_append, List.length_append, hp.len, hq.len]; simp) W h1 (Byt.append (Byt.append (fun z hz => by simp at hz; omega) hp.byt) hq.byt) h2
  have HLP : Hid (p.length = 32) := hp.len
  have HLQ : Hid (q.length = 32) := hq.len
  have TU : Hid (Tb U) := hT.below bU
  have BU : Hid (Below w.heap.size w U) := bU
  obtain ⟨D, hD⟩ : ∃ D, w.heap.size = D := ⟨_, rfl⟩
  have HD : Hid (w.heap.size = D) := hD
  rw [hD] at sU rz rp
  have SU : Hid (U.heap.size = D + 2) := sU
  have RZ : Hid (U.heap[D + 1]? = some (.cells Z 44 (0, 0))) := rz
  have RX : Hid (U.rangeAt D 0 (lf p q)) := rp
  have O1 : Hid (Ow U.heap.size (U.alloc (.cells #[.int .u8 1] 5)) (.slice (some ⟨U.heap.size, 0, none⟩) 1 1) [1]) := ow_one U 1
  have BA : Hid (Below U.heap.size U (U.alloc (.cells #[.int .u8 1] 5))) := (Below.refl _ U).alloc (Nat.le_refl _) _
  clear ra sU bU rz rp hA hZ hH hp hq hT
  go_enter Tryd.func47, Tryd.ntmps47
  go_upto_region 1 with (fail)
  try rw [hU]
  try rw [hD]
  clear hU hD hz
  go_upto_region 3 with (first
    | (at_builtin; refine app_u8 (B0 := U.heap.size) rfl (.tmp 8) (.tmp 10) rfl (B1.out.size) v1 ([1] ++ p) rfl P1.out _ rfl q (sl_range HQ.out (lf_q HP.out (range_below RX.out B1.out (by have := SU.out; omega))) (Nat.lt_of_lt_of_le (by have := SU.out; omega) B1.out.size)) (by have q1 := HLP.out; have q2 := HLQ.out; simp; omega) ?_; intro v2 w2 h1 h2 h3 h4; have O2 : Hid (Ow U.heap.size w2 v2 ([1] ++ p ++ q)) := h1; have B2 : Hid (Below U.heap.size U w2) := B1.out.trans h3; clear h1 h2 h3 h4)
    | (at_builtin; refine app_u8 (B0 := U.heap.size) rfl (.tmp 4) (.tmp 6) rfl (BA.out.size) _ [1] rfl O1.out _ rfl p (sl_range HP.out (lf_p (range_below RX.out BA.out (by have := SU.out; omega))) (Nat.lt_of_lt_of_le (by have := SU.out; omega) BA.out.size)) (by have q1 := HLP.out; simp; omega) ?_; intro v1 w1 h1 h2 h3 h4; have P1 : Hid (Ow U.heap.size w1 v1 ([1] ++ p)) := h1; have B1 : Hid (Below U.heap.size U w1) := BA.out.trans h3; clear h1 h2 h3 h4))
  have R2 : Hid (w2.rangeAt D 0 (lf p q)) := range_below RX.out B2.out (by have := SU.out; omega)
  have Z2 : Hid (D < w2.heap.size) := Nat.lt_of_lt_of_le (by have := SU.out; omega) B2.out.size
  have Z3 : Hid (D + 1 < w2.heap.size) := Nat.lt_of_lt_of_le (by have := SU.out; omega) B2.out.size
  have T2 : Hid (Tb w2) := TU.out.below B2.out
  have RZ2 : Hid (w2.heap[D + 1]? = some (.cells Z 44 (0, 0))) := (B2.out.block _ (by have := SU.out; omega)).trans RZ.out
  refine RU.wp_rgn' [5] (lf3f D p H v2) (fun _ => 0) (lfΩ w2 (D + 1) ⟨256, p, H⟩) (by kernel_rfl) (by kernel_rfl) (show Below w2.heap.size w2 _ from (Below.refl _ _).drew) ?_ ?_
  · refine ⟨?_, ?_, ?_, ?_, ?_, ?_, trivial⟩
    · refine RU.ObT.pure rfl rfl rfl (fun a V hf hp ev he hc W => ?_)
      have q1 : ev (.tmp 1) = .pointer (some ⟨D, 0, none⟩) := (he (.tmp 1)).trans (hf 1 rfl)
      simp only [List.getElem_toArray, List.getElem_cons_succ, List.getElem_cons_zero, execOp, Option.map_some, Option.map_none]; rw [q1]
      first | (go_simp; done) | (go_simp; rfl) | rfl
    · refine RU.ObT.silent rfl (fun a W k0 V hO hf hp hk => ?_)
      obtain rfl : k0 = 0 := Nat.le_zero.1 hk; have hO' : Below w2.heap.size w2 W := hO
      have q12 : a.eval (.tmp 12) = .pointer (some ⟨D, 0, none⟩) := hp 0 12 rfl
      exact RU.ob_op rfl (RU.wanted_none rfl) (wp_load_mid 31 (.tmp 12) rfl (D) (0) q12 (bv p) _ (range_below (lf_p R2.out) hO' Z2.out) Tryd.underlying31 rfl (size_l32 HP.out) ⟨rfl, hO⟩)
    · refine RU.ObT.pure rfl rfl rfl (fun a V hf hp ev he hc W => ?_)
      have q3 : ev (.tmp 3) = v2 := (he (.tmp 3)).trans (hf 3 rfl)
      simp only [List.getElem_toArray, List.getElem_cons_succ, List.getElem_cons_zero, execOp, Option.map_some, Option.map_none]; rw [q3]
      first | (go_simp; done) | (go_simp; rfl) | rfl
    · refine RU.ObT.silent rfl (fun a W k0 V hO hf hp hk => ?_)
      obtain rfl : k0 = 0 := Nat.le_zero.1 hk; have hO' : Below w2.heap.size w2 W := hO
      have e14 : a.eval (.tmp 14) = v2 := hp 2 14 rfl
      refine RU.ob_call (g := 66) (args := #[v2]) rfl (RU.wanted_none rfl) (fun ev he hc => ?_) ((HSU.out v2 W (T2.out.below hO') (O2.out.sq.below hO')).mono ?_)
      · have h14 := (he (.tmp 14)).trans e14
        have hfn := he (.func 66)
        simp only [List.getElem_toArray, List.getElem_cons_succ, List.getElem_cons_zero, execOp, Option.map_some, Option.map_none]
        simp only [resolve, invoke, Sem.run_bind, Sem.run_pure, Result.andThen_ok, List.map_toArray, List.map_cons, List.map_nil, h14, hfn, Act.eval, hc]
        rfl
      · rintro e' W2 ⟨rfl, hb2⟩
        exact ⟨_, rfl, rfl, (hO'.trans (hb2.mono hO'.size) : Below w2.heap.size w2 W2)⟩
    · refine RU.ObT.silent rfl (fun a W k0 V hO hf hp hk => ?_)
      have q13 : a.eval (.tmp 13) = .agg (bv p).toArray := hp 1 13 rfl
      have q15 : a.eval (.tmp 15) = .agg (bv H).toArray := hp 3 15 rfl
      refine RU.ob_val rfl (RU.wanted_none rfl) (fun ev he hc => ?_) ⟨rfl, hO⟩
      have e1 := (he (.tmp 13)).trans q13
      have e2 := (he (.tmp 15)).trans q15
      simp only [List.getElem_toArray, List.getElem_cons_succ, List.getElem_cons_zero, execOp, Sem.run_bind, List.map_toArray, List.map_cons, List.map_nil, hc, e1, e2, HBN.out W, Result.andThen_ok, Sem.run_pure]
      rfl
    · refine RU.ObT.loud (j := 0) rfl (fun a W V hO hf hp => ?_)
      have hO' : Below w2.heap.size w2 W := hO
      have q2 : a.eval (.tmp 2) = .pointer (some ⟨D + 1, 0, none⟩) := hf 2 rfl
      have q16 : a.eval (.tmp 16) = .agg (nc ⟨256, p, H⟩).toArray := hp 4 16 rfl
      have hth : W.there (D + 1) 0 65 := there_of_row' ((hO'.block _ Z3.out).trans RZ2.out) 0 65 (by omega)
      exact RU.ob_op rfl (RU.wanted_none rfl) (wp_store_mid 44 (.tmp 2) (.tmp 16) rfl (D + 1) 0 (nc ⟨256, p, H⟩).toArray q2 q16 (by rw [nc_size ⟨HP.out, HHL.out⟩]; exact hth) (by rw [List.size_toArray]; exact size_nc ⟨HP.out, HHL.out⟩) (nc_one _) ⟨_, rfl, by simp only [List.toList_toArray]; exact ⟨W, hO', rfl⟩⟩)
  intro W3 VW3 hOW3
  obtain ⟨W0, hW0, hWW⟩ := hOW3
  subst hWW
  have B3 : Hid (Below w2.heap.size w2 W0) := hW0
  clear hW0
  simp only [RU.lay, RU.val, RU.at', lf3f, Act.put]
  simp only [List.setIfInBounds_toArray, List.set_cons_succ, List.set_cons_zero]
  go_wp2_with fail
  have hth : W0.there (D + 1) 0 65 := there_of_row' ((B3.out.block _ Z3.out).trans RZ2.out) 0 65 (by omega)
  have qq : (W0.setCells (D + 1) 0 (nc ⟨256, p, H⟩)).rangeAt (D + 1) 0 (nc ⟨256, p, H⟩) := World.rangeAt_setCells_same _ _ _ _ (by rw [nc_length ⟨HP.out, HHL.out⟩]; exact hth)
  have hbl : Below w.heap.size w (W0.setCells (D + 1) 0 (nc ⟨256, p, H⟩)) := below_setCells (by rw [HD.out]; omega) _ _ (BU.out.trans ((B2.out.trans (B3.out.mono B2.out.size)).mono BU.out.size))
  refine bodyPost_ret (v := .agg (nc ⟨256, p, H⟩).toArray) ?_ rfl ⟨by rw [HJ.out], hbl⟩
  simp only [results, Tryd.results47]
  simp [Act.put, asAddr, run_loadVar_mid _ (D + 1) 0 44 (nc ⟨256, p, H⟩) _ qq Tryd.underlying44 rfl (size_nc ⟨HP.out, HHL.out⟩)]
end Go.Proofs.YtpojalbpekbfdaaDoor
/- SHA-256 of the one byte 0, reckoned. -/
namespace Go.Proofs.YtpojalbpekbfdaaDoor.Sh
open Go Go.RowKit
set_option linter.unusedSimpArgs false
set_option linter.unusedVariables false
set_option maxRecDepth 100000

def emTW : List (BitVec 32) := [8388608, 0, 0, 0, 0, 0, 0, 0, 0, 0, 0, 0, 0, 0, 0, 8, 8388608, 327680, 8272, 536871234, 337772552, 8475648, 1073741853, 2164269061, 2230272, 337793272, 1694501337, 1988624393, 105919010, 1075328946, 2958489588, 494040618, 4190885525, 2196774829, 2285820332, 3305243022, 1628256880, 606574232, 2869189168, 912661284, 2417538391, 662210437, 2456130860, 1931430815, 67023220, 2052358436, 1064287929, 1067640270, 2524529989, 1109617150, 181928543, 1162918410, 2922595010, 279395504, 2082656472, 3609216951, 870645911, 2341257311, 3664634151, 1568575899, 3374228186, 731796513, 3196917518, 483982666]
def emW (t : Nat) : BitVec 32 := emTW.getD t 0
def emTS : List St := [⟨1779033703, 3144134277, 1013904242, 2773480762, 1359893119, 2600822924, 528734635, 1541459225⟩, ⟨4236806221, 1779033703, 3144134277, 1013904242, 2571625122, 1359893119, 2600822924, 528734635⟩, ⟨989818510, 4236806221, 1779033703, 3144134277, 1576518166, 2571625122, 1359893119, 2600822924⟩, ⟨3430007974, 989818510, 4236806221, 1779033703, 98258985, 1576518166, 2571625122, 1359893119⟩, ⟨1936599410, 3430007974, 989818510, 4236806221, 2403711413, 98258985, 1576518166, 2571625122⟩, ⟨1431265596, 1936599410, 3430007974, 989818510, 1735042051, 2403711413, 98258985, 1576518166⟩, ⟨1862463294, 1431265596, 1936599410, 3430007974, 861763893, 1735042051, 2403711413, 98258985⟩, ⟨85498818, 1862463294, 1431265596, 1936599410, 1890368710, 861763893, 1735042051, 2403711413⟩, ⟨3410429513, 85498818, 1862463294, 1431265596, 3161538141, 1890368710, 861763893, 1735042051⟩, ⟨2751560656, 3410429513, 85498818, 1862463294, 1304924475, 3161538141, 1890368710, 861763893⟩, ⟨592159826, 2751560656, 3410429513, 85498818, 451099489, 1304924475, 3161538141, 1890368710⟩, ⟨60594652, 592159826, 2751560656, 3410429513, 3768537994, 451099489, 1304924475, 3161538141⟩, ⟨337837970, 60594652, 592159826, 2751560656, 366, 3768537994, 451099489, 1304924475⟩, ⟨1721431348, 337837970, 60594652, 592159826, 355163279, 366, 3768537994, 451099489⟩, ⟨2530907540, 1721431348, 337837970, 60594652, 3619284050, 355163279, 366, 3768537994⟩, ⟨2843349155, 2530907540, 1721431348, 337837970, 3006755585, 3619284050, 355163279, 366⟩, ⟨2213835396, 2843349155, 2530907540, 1721431348, 1782291205, 3006755585, 3619284050, 355163279⟩, ⟨63933150, 2213835396, 2843349155, 2530907540, 2170379905, 1782291205, 3006755585, 3619284050⟩, ⟨3732479028, 63933150, 2213835396, 2843349155, 153950846, 2170379905, 1782291205, 3006755585⟩, ⟨4257676598, 3732479028, 63933150, 2213835396, 4043017097, 153950846, 2170379905, 1782291205⟩, ⟨128972933, 4257676598, 3732479028, 63933150, 1587692614, 4043017097, 153950846, 2170379905⟩, ⟨4022138650, 128972933, 4257676598, 3732479028, 3648695940, 1587692614, 4043017097, 153950846⟩, ⟨738371693, 4022138650, 128972933, 4257676598, 703110124, 3648695940, 1587692614, 4043017097⟩, ⟨1493034043, 738371693, 4022138650, 128972933, 609053350, 703110124, 3648695940, 1587692614⟩, ⟨2821300891, 1493034043, 738371693, 4022138650, 1118266211, 609053350, 703110124, 3648695940⟩, ⟨3464717002, 2821300891, 1493034043, 738371693, 1035563614, 1118266211, 609053350, 703110124⟩, ⟨1204946522, 3464717002, 2821300891, 1493034043, 44909721, 1035563614, 1118266211, 609053350⟩, ⟨3578242287, 1204946522, 3464717002, 2821300891, 1954713655, 44909721, 1035563614, 1118266211⟩, ⟨2973166161, 3578242287, 1204946522, 3464717002, 3303041487, 1954713655, 44909721, 1035563614⟩, ⟨2199309076, 2973166161, 3578242287, 1204946522, 2530873756, 3303041487, 1954713655, 44909721⟩, ⟨3730042724, 2199309076, 2973166161, 3578242287, 1908478698, 2530873756, 3303041487, 1954713655⟩, ⟨1789604845, 3730042724, 2199309076, 2973166161, 2848740169, 1908478698, 2530873756, 3303041487⟩, ⟨187424699, 1789604845, 3730042724, 2199309076, 2302718624, 2848740169, 1908478698, 2530873756⟩, ⟨52675105, 187424699, 1789604845, 3730042724, 2879539884, 2302718624, 2848740169, 1908478698⟩, ⟨3425391657, 52675105, 187424699, 1789604845, 3230335562, 2879539884, 2302718624, 2848740169⟩, ⟨3138735915, 3425391657, 52675105, 187424699, 2608896399, 3230335562, 2879539884, 2302718624⟩, ⟨1605772504, 3138735915, 3425391657, 52675105, 488282334, 2608896399, 3230335562, 2879539884⟩, ⟨53121886, 1605772504, 3138735915, 3425391657, 1029372765, 488282334, 2608896399, 3230335562⟩, ⟨2022995856, 53121886, 1605772504, 3138735915, 2031222480, 1029372765, 488282334, 2608896399⟩, ⟨1738905024, 2022995856, 53121886, 1605772504, 3549172846, 2031222480, 1029372765, 488282334⟩, ⟨3645261860, 1738905024, 2022995856, 53121886, 3013245802, 3549172846, 2031222480, 1029372765⟩, ⟨1044315944, 3645261860, 1738905024, 2022995856, 1502441896, 3013245802, 3549172846, 2031222480⟩, ⟨3143433783, 1044315944, 3645261860, 1738905024, 2811734498, 1502441896, 3013245802, 3549172846⟩, ⟨3738845022, 3143433783, 1044315944, 3645261860, 512662387, 2811734498, 1502441896, 3013245802⟩, ⟨4280178306, 3738845022, 3143433783, 1044315944, 4098399467, 512662387, 2811734498, 1502441896⟩, ⟨3481896950, 4280178306, 3738845022, 3143433783, 2615124570, 4098399467, 512662387, 2811734498⟩, ⟨3852521770, 3481896950, 4280178306, 3738845022, 387444988, 2615124570, 4098399467, 512662387⟩, ⟨1284999614, 3852521770, 3481896950, 4280178306, 2288860832, 387444988, 2615124570, 4098399467⟩, ⟨118537947, 1284999614, 3852521770, 3481896950, 3082556350, 2288860832, 387444988, 2615124570⟩, ⟨3668412693, 118537947, 1284999614, 3852521770, 4005100578, 3082556350, 2288860832, 387444988⟩, ⟨1623451886, 3668412693, 118537947, 1284999614, 1470746726, 4005100578, 3082556350, 2288860832⟩, ⟨4130003931, 1623451886, 3668412693, 118537947, 794720019, 1470746726, 4005100578, 3082556350⟩, ⟨1982312571, 4130003931, 1623451886, 3668412693, 39468287, 794720019, 1470746726, 4005100578⟩, ⟨3014870485, 1982312571, 4130003931, 1623451886, 1470309620, 39468287, 794720019, 1470746726⟩, ⟨88612399, 3014870485, 1982312571, 4130003931, 3767671585, 1470309620, 39468287, 794720019⟩, ⟨1007790196, 88612399, 3014870485, 1982312571, 3938901490, 3767671585, 1470309620, 39468287⟩, ⟨2365214587, 1007790196, 88612399, 3014870485, 3289159969, 3938901490, 3767671585, 1470309620⟩, ⟨71929708, 2365214587, 1007790196, 88612399, 969256067, 3289159969, 3938901490, 3767671585⟩, ⟨2378893565, 71929708, 2365214587, 1007790196, 711566890, 969256067, 3289159969, 3938901490⟩, ⟨621501622, 2378893565, 71929708, 2365214587, 3415513949, 711566890, 969256067, 3289159969⟩, ⟨104502856, 621501622, 2378893565, 71929708, 1281929444, 3415513949, 711566890, 969256067⟩, ⟨371725554, 104502856, 621501622, 2378893565, 3150893828, 1281929444, 3415513949, 711566890⟩, ⟨1614172532, 371725554, 104502856, 621501622, 1703790939, 3150893828, 1281929444, 3415513949⟩, ⟨1145818131, 1614172532, 371725554, 104502856, 405917674, 1703790939, 3150893828, 1281929444⟩, ⟨69870901, 1145818131, 1614172532, 371725554, 662817472, 405917674, 1703790939, 3150893828⟩]
def emS (t : Nat) : St := emTS.getD t H256
def emM : Nat → BitVec 8 := hm [0]
theorem em_zero (i : Nat) : emM i = 0 := by
  unfold emM hm gi
  cases i <;> simp
theorem em_first : ∀ t : Fin 16, emW t.val = word (padM (fun _ => 0) 1 (4 * t.val)) (padM (fun _ => 0) 1 (4 * t.val + 1)) (padM (fun _ => 0) 1 (4 * t.val + 2)) (padM (fun _ => 0) 1 (4 * t.val + 3)) := by decide +kernel
theorem em_later : ∀ t : Fin 48, emW (16 + t.val) = lo1 (emW (14 + t.val)) + emW (9 + t.val) + lo0 (emW (1 + t.val)) + emW t.val := by decide +kernel
theorem em_steps : ∀ t : Fin 64, (step (emS t.val) (K256 t.val) (emW t.val)).eqb (emS (t.val + 1)) = true := by decide +kernel
theorem em_sched : Sched (padM (fun _ => 0) 1) emW where
  first t h := em_first ⟨t, h⟩
  later t h1 h2 := by
    have := em_later ⟨t - 16, by omega⟩
    simp only at this
    rw [show 16 + (t - 16) = t by omega, show 14 + (t - 16) = t - 2 by omega, show 9 + (t - 16) = t - 7 by omega, show 1 + (t - 16) = t - 15 by omega] at this
    exact this
theorem em_rounds : ∀ n, n ≤ 64 → rounds K256 emW H256 n = emS n
  | 0, _ => St.eq_of_eqb (by decide +kernel)
  | n + 1, h => by
    rw [rounds, em_rounds n (by omega)]
    exact St.eq_of_eqb (em_steps ⟨n, by omega⟩)
theorem em_sum : sumSt K256 H256 (fun _ => 0) 1 = ⟨1848904604, 4289952408, 2628076774, 3145206316, 2022710591, 3006740598, 2232525574, 397385757⟩ := by
  have hn : nblk 1 = 0 + 1 := rfl
  rw [sumSt, hn, blocks, blocks, compress, rounds_congr K256 _ emW H256 64 (fun t ht => by
    have e : (fun i => padM (fun _ => 0) 1 (64 * 0 + i)) = padM (fun _ => 0) 1 := funext fun i => by rw [Nat.mul_zero, Nat.zero_add]
    rw [e]; exact sched_unique (schedW_ok _) em_sched t ht), em_rounds 64 (Nat.le_refl _)]
  exact St.eq_of_eqb (by decide +kernel)
theorem em_byte0 : sbyte (sumSt K256 H256 (fun _ => 0) 1) 0 = 110 := by rw [em_sum]; decide +kernel
theorem em_byte1 : sbyte (sumSt K256 H256 (fun _ => 0) 1) 1 = 52 := by rw [em_sum]; decide +kernel
end Go.Proofs.YtpojalbpekbfdaaDoor.Sh
namespace Go.Proofs.YtpojalbpekbfdaaDoor
open Go Go.RowKit
/-- How SHA-256 of the one byte 0 begins. -/
theorem hs_zero : gi (hs [0]) 0 = 110 ∧ gi (hs [0]) 1 = 52 := by
  have h2 : hm [0] = fun _ => 0 := funext Sh.em_zero
  unfold hs row32
  rw [h2]
  constructor
  · show Sh.ub (Sh.sbyte (Sh.sumSt Sh.K256 Sh.H256 (fun _ => 0) 1) 0) = 110
    rw [Sh.em_byte0]; rfl
  · show Sh.ub (Sh.sbyte (Sh.sumSt Sh.K256 Sh.H256 (fun _ => 0) 1) 1) = 52
    rw [Sh.em_byte1]; rfl
end Go.Proofs.YtpojalbpekbfdaaDoor
