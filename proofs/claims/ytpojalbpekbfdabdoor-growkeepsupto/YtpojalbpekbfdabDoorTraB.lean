/- SHA-256 of the one byte 0, reckoned. -/
import Derived.Test.YtpojalbpekbfdabDoorShaP
import Derived.Test.YtpojalbpekbfdabDoorTraA
import Derived.Great.BuildSlice
namespace Go.Proofs.YtpojalbpekbfdabDoor.Sh
open Go Go.RowKit
set_option linter.unusedSimpArgs false
set_option linter.unusedVariables false
set_option maxRecDepth 100000

def emTW : List (BitVec 32) := [8388608, 0, 0, 0, 0, 0, 0, 0, 0, 0, 0, 0, 0, 0, 0, 8, 8388608, 327680, 8272, 536871234, 337772552, 8475648, 1073741853, 2164269061, 2230272, 337793272, 1694501337, 1988624393, 105919010, 1075328946, 2958489588, 494040618, 4190885525, 2196774829, 2285820332, 3305243022, 1628256880, 606574232, 2869189168, 912661284, 2417538391, 662210437, 2456130860, 1931430815, 67023220, 2052358436, 1064287929, 1067640270, 2524529989, 1109617150, 181928543, 1162918410, 2922595010, 279395504, 2082656472, 3609216951, 870645911, 2341257311, 3664634151, 1568575899, 3374228186, 731796513, 3196917518, 483982666]
def emW (t : Nat) : BitVec 32 := emTW.getD t 0
def emTS : List St := [⟨1779033703, 3144134277, 1013904242, 2773480762, 1359893119, 2600822924, 528734635, 1541459225⟩, ⟨4236806221, 1779033703, 3144134277, 1013904242, 2571625122, 1359893119, 2600822924, 528734635⟩, ⟨989818510, 4236806221, 1779033703, 3144134277, 1576518166, 2571625122, 1359893119, 2600822924⟩, ⟨3430007974, 989818510, 4236806221, 1779033703, 98258985, 1576518166, 2571625122, 1359893119⟩, ⟨1936599410, 3430007974, 989818510, 4236806221, 2403711413, 98258985, 1576518166, 2571625122⟩, ⟨1431265596, 1936599410, 3430007974, 989818510, 1735042051, 2403711413, 98258985, 1576518166⟩, ⟨1862463294, 1431265596, 1936599410, 3430007974, 861763893, 1735042051, 2403711413, 98258985⟩, ⟨85498818, 1862463294, 1431265596, 1936599410, 1890368710, 861763893, 1735042051, 2403711413⟩, ⟨3410429513, 85498818, 1862463294, 1431265596, 3161538141, 1890368710, 861763893, 1735042051⟩, ⟨2751560656, 3410429513, 85498818, 1862463294, 1304924475, 3161538141, 1890368710, 861763893⟩, ⟨592159826, 2751560656, 3410429513, 85498818, 451099489, 1304924475, 3161538141, 1890368710⟩, ⟨60594652, 592159826, 2751560656, 3410429513, 3768537994, 451099489, 1304924475, 3161538141⟩, ⟨337837970, 60594652, 592159826, 2751560656, 366, 3768537994, 451099489, 1304924475⟩, ⟨1721431348, 337837970, 60594652, 592159826, 355163279, 366, 3768537994, 451099489⟩, ⟨2530907540, 1721431348, 337837970, 60594652, 3619284050, 355163279, 366, 3768537994⟩, ⟨2843349155, 2530907540, 1721431348, 337837970, 3006755585, 3619284050, 355163279, 366⟩, ⟨2213835396, 2843349155, 2530907540, 1721431348, 1782291205, 3006755585, 3619284050, 355163279⟩, ⟨63933150, 2213835396, 2843349155, 2530907540, 2170379905, 1782291205, 3006755585, 3619284050⟩, ⟨3732479028, 63933150, 2213835396, 2843349155, 153950846, 2170379905, 1782291205, 3006755585⟩, ⟨4257676598, 3732479028, 63933150, 2213835396, 4043017097, 153950846, 2170379905, 1782291205⟩, ⟨128972933, 4257676598, 3732479028, 63933150, 1587692614, 4043017097, 153950846, 2170379905⟩, ⟨4022138650, 128972933, 4257676598, 3732479028, 3648695940, 1587692614, 4043017097, 153950846⟩, ⟨738371693, 4022138650, 128972933, 4257676598, 703110124, 3648695940, 1587692614, 4043017097⟩, ⟨1493034043, 738371693, 4022138650, 128972933, 609053350, 703110124, 3648695940, 1587692614⟩, ⟨2821300891, 1493034043, 738371693, 4022138650, 1118266211, 609053350, 703110124, 3648695940⟩, ⟨3464717002, 2821300891, 1493034043, 738371693, 1035563614, 1118266211, 609053350, 703110124⟩, ⟨1204946522, 3464717002, 2821300891, 1493034043, 44909721, 1035563614, 1118266211, 609053350⟩, ⟨3578242287, 1204946522, 3464717002, 2821300891, 1954713655, 44909721, 1035563614, 1118266211⟩, ⟨2973166161, 3578242287, 1204946522, 3464717002, 3303041487, 1954713655, 44909721, 1035563614⟩, ⟨2199309076, 2973166161, 3578242287, 1204946522, 2530873756, 3303041487, 1954713655, 44909721⟩, ⟨3730042724, 2199309076, 2973166161, 3578242287, 1908478698, 2530873756, 3303041487, 1954713655⟩, ⟨1789604845, 3730042724, 2199309076, 2973166161, 2848740169, 1908478698, 2530873756, 3303041487⟩, ⟨187424699, 1789604845, 3730042724, 2199309076, 2302718624, 2848740169, 1908478698, 2530873756⟩, ⟨52675105, 187424699, 1789604845, 3730042724, 2879539884, 2302718624, 2848740169, 1908478698⟩, ⟨3425391657, 52675105, 187424699, 1789604845, 3230335562, 2879539884, 2302718624, 2848740169⟩, ⟨3138735915, 3425391657, 52675105, 187424699, 2608896399, 3230335562, 2879539884, 2302718624⟩, ⟨1605772504, 3138735915, 3425391657, 52675105, 488282334, 2608896399, 3230335562, 2879539884⟩, ⟨53121886, 1605772504, 3138735915, 3425391657, 1029372765, 488282334, 2608896399, 3230335562⟩, ⟨2022995856, 53121886, 1605772504, 3138735915, 2031222480, 1029372765, 488282334, 2608896399⟩, ⟨1738905024, 2022995856, 53121886, 1605772504, 3549172846, 2031222480, 1029372765, 488282334⟩, ⟨3645261860, 1738905024, 2022995856, 53121886, 3013245802, 3549172846, 2031222480, 1029372765⟩, ⟨1044315944, 3645261860, 1738905024, 2022995856, 1502441896, 3013245802, 3549172846, 2031222480⟩, ⟨3143433783, 1044315944, 3645261860, 1738905024, 2811734498, 1502441896, 3013245802, 3549172846⟩, ⟨3738845022, 3143433783, 1044315944, 3645261860, 512662387, 2811734498, 1502441896, 3013245802⟩, ⟨4280178306, 3738845022, 3143433783, 1044315944, 4098399467, 512662387, 2811734498, 1502441896⟩, ⟨3481896950, 4280178306, 3738845022, 3143433783, 2615124570, 4098399467, 512662387, 2811734498⟩, ⟨3852521770, 3481896950, 4280178306, 3738845022, 387444988, 2615124570, 4098399467, 512662387⟩, ⟨1284999614, 3852521770, 3481896950, 4280178306, 2288860832, 387444988, 2615124570, 4098399467⟩, ⟨118537947, 1284999614, 3852521770, 3481896950, 3082556350, 2288860832, 387444988, 2615124570⟩, ⟨3668412693, 118537947, 1284999614, 3852521770, 4005100578, 3082556350, 2288860832, 387444988⟩, ⟨1623451886, 3668412693, 118537947, 1284999614, 1470746726, 4005100578, 3082556350, 2288860832⟩, ⟨4130003931, 1623451886, 3668412693, 118537947, 794720019, 1470746726, 4005100578, 3082556350⟩, ⟨1982312571, 4130003931, 1623451886, 3668412693, 39468287, 794720019, 1470746726, 4005100578⟩, ⟨3014870485, 1982312571, 4130003931, 1623451886, 1470309620, 39468287, 794720019, 1470746726⟩, ⟨88612399, 3014870485, 1982312571, 4130003931, 3767671585, 1470309620, 39468287, 794720019⟩, ⟨1007790196, 88612399, 3014870485, 1982312571, 3938901490, 3767671585, 1470309620, 39468287⟩, ⟨2365214587, 1007790196, 88612399, 3014870485, 3289159969, 3938901490, 3767671585, 1470309620⟩, ⟨71929708, 2365214587, 1007790196, 88612399, 969256067, 3289159969, 3938901490, 3767671585⟩, ⟨2378893565, 71929708, 2365214587, 1007790196, 711566890, 969256067, 3289159969, 3938901490⟩, ⟨621501622, 2378893565, 71929708, 2365214587, 3415513949, 711566890, 969256067, 3289159969⟩, ⟨104502856, 621501622, 2378893565, 71929708, 1281929444, 3415513949, 711566890, 969256067⟩, ⟨371725554, 104502856, 621501622, 2378893565, 3150893828, 1281929444, 3415513949, 711566890⟩, ⟨1614172532, 371725554, 104502856, 621501622, 1703790939, 3150893828, 1281929444, 3415513949⟩, ⟨1145818131, 1614172532, 371725554, 104502856, 405917674, 1703790939, 3150893828, 1281929444⟩, ⟨69870901, 1145818131, 1614172532, 371725554, 662817472, 405917674, 1703790939, 3150893828⟩]
def emS (t : Nat) : St := emTS.getD t H256
def emM : Nat → BitVec 8 := hm [0]
theorem em_zero (i : Nat) : emM i = 0 := by
  unfold emM hm gi
  cases i <;> simp
theorem em_first : ∀ t : Fin 16, emW t.val = word (padM (fun _ => 0) 1 (4 * t.val)) (padM (fun _ => 0) 1 (4 * t.val + 1)) (padM (fun _ => 0) 1 (4 * t.val + 2)) (padM (fun _ => 0) 1 (4 * t.val + 3)) := by decide +kernel
theorem em_later : ∀ t : Fin 48, emW (16 + t.val) = lo1 (emW (14 + t.val)) + emW (9 + t.val) + lo0 (emW (1 + t.val)) + emW t.val := by decide +kernel
theorem em_steps : ∀ t : Fin 64, (step (emS t.val) (K256 t.val) (emW t.val)).eqb (emS (t.val + 1)) = true := by decide +kernel
theorem em_sched : Sched (padM (fun _ => 0) 1) emW where
  first t h := em_first ⟨t, h⟩
  later t h1 h2 := by
    have := em_later ⟨t - 16, by omega⟩
    simp only at this
    rw [show 16 + (t - 16) = t by omega, show 14 + (t - 16) = t - 2 by omega, show 9 + (t - 16) = t - 7 by omega, show 1 + (t - 16) = t - 15 by omega] at this
    exact this
theorem em_rounds : ∀ n, n ≤ 64 → rounds K256 emW H256 n = emS n
  | 0, _ => St.eq_of_eqb (by decide +kernel)
  | n + 1, h => by
    rw [rounds, em_rounds n (by omega)]
    exact St.eq_of_eqb (em_steps ⟨n, by omega⟩)
theorem em_sum : sumSt K256 H256 (fun _ => 0) 1 = ⟨1848904604, 4289952408, 2628076774, 3145206316, 2022710591, 3006740598, 2232525574, 397385757⟩ := by
  have hn : nblk 1 = 0 + 1 := rfl
  rw [sumSt, hn, blocks, blocks, compress, rounds_congr K256 _ emW H256 64 (fun t ht => by
    have e : (fun i => padM (fun _ => 0) 1 (64 * 0 + i)) = padM (fun _ => 0) 1 := funext fun i => by rw [Nat.mul_zero, Nat.zero_add]
    rw [e]; exact sched_unique (schedW_ok _) em_sched t ht), em_rounds 64 (Nat.le_refl _)]
  exact St.eq_of_eqb (by decide +kernel)
theorem em_byte0 : sbyte (sumSt K256 H256 (fun _ => 0) 1) 0 = 110 := by rw [em_sum]; decide +kernel
theorem em_byte1 : sbyte (sumSt K256 H256 (fun _ => 0) 1) 1 = 52 := by rw [em_sum]; decide +kernel
end Go.Proofs.YtpojalbpekbfdabDoor.Sh
namespace Go.Proofs.YtpojalbpekbfdabDoor
open Go Go.RowKit
/-- How SHA-256 of the one byte 0 begins. -/
theorem hs_zero : gi (hs [0]) 0 = 110 ∧ gi (hs [0]) 1 = 52 := by
  have h2 : hm [0] = fun _ => 0 := funext Sh.em_zero
  unfold hs row32
  rw [h2]
  constructor
  · show Sh.ub (Sh.sbyte (Sh.sumSt Sh.K256 Sh.H256 (fun _ => 0) 1) 0) = 110
    rw [Sh.em_byte0]; rfl
  · show Sh.ub (Sh.sbyte (Sh.sumSt Sh.K256 Sh.H256 (fun _ => 0) 1) 1) = 52
    rw [Sh.em_byte1]; rfl
end Go.Proofs.YtpojalbpekbfdabDoor
/- Package tree: the law's awake. -/
namespace Go.Proofs.YtpojalbpekbfdabDoor
open Go Go.RowKit
set_option linter.unusedSimpArgs false
set_option linter.unusedVariables false
set_option maxRecDepth 100000

/-- The label that is 1 and noughts. -/
def o32 : List Int := 1 :: List.replicate 31 0
theorem o32_l32 : L32 o32 := ⟨by simp [o32], fun z hz => by
  rcases List.mem_cons.1 hz with rfl | hz
  · omega
  · have := List.eq_of_mem_replicate hz; omega⟩
theorem build_o32 (w : World) : (Instr.build 25 #[(0, .int .u8 1)]).run Tryd.prog w = .ok (.agg (bv o32).toArray) w := by kernel_rfl
theorem build_lf (w : World) : (Instr.build 27 #[(0, .agg (bv o32).toArray)]).run Tryd.prog w = .ok (.agg (lf o32 z32).toArray) w := by kernel_rfl
/-- A value of one field built. -/
theorem wp_build1 {P : Program} {ops : Array Oper} {rest : List Oper} {o : Oper} {a : Act} {w : World} {Q : Exit → Act → World → Prop} (t : TypeId) (x0 : Operand) (ho : o.op = .build t #[(0, x0)]) (hgd : o.guard = none) (v0 : Value) (h0 : a.eval x0 = v0) (cells : Array Value)
    (hr : (Instr.build t #[(0, v0)]).run P w = .ok (.agg cells) w) (h : wpList P ops Q rest (a.put o.dst (.agg cells)) w) : wpList P ops Q (o :: rest) a w := by
  refine wpList_plain hgd fun K hK => ?_
  unfold Oper.wp execOp
  simp only [ho, Sem.run_bind, List.map_toArray, List.map_cons, List.map_nil, h0, hr, Result.andThen_ok, Sem.run_pure]
  exact hK _ _ h
/-- A row laid in a new block. -/
theorem there_new (w : World) {Z : Array Value} {t : TypeId} {n : Nat} (hn : n = Z.size) : (w.alloc (.cells Z t)).there w.heap.size 0 n := by
  have : (w.alloc (.cells Z t)).heap[w.heap.size]? = some (.cells Z t (0, 0)) := by show (w.heap.push _)[w.heap.size]? = _; simp
  exact there_of_row' this 0 n (by omega)
theorem laid_row {w U : World} {Z : Array Value} {cs : List Value} (hz : cs.length = Z.size) (h0 : 0 < cs.length) {t : TypeId} (e : (w.alloc (.cells Z t)).setCells w.heap.size 0 cs = U) : U.rangeAt w.heap.size 0 cs ∧ Below w.heap.size w U ∧ w.heap.size < U.heap.size := by
  have h1 : U.rangeAt w.heap.size 0 cs := by rw [← e]; exact World.rangeAt_setCells_same _ _ _ _ (there_new w hz)
  have h2 : Below w.heap.size w U := by rw [← e]; exact below_setCells (Nat.le_refl _) _ _ ((Below.refl _ w).alloc (Nat.le_refl _) _)
  refine ⟨h1, h2, ?_⟩
  have := h1 0 _ (List.getElem?_eq_getElem h0)
  unfold World.cell? at this
  cases hh : U.heap[w.heap.size]? with
  | none => rw [show ((⟨w.heap.size, 0 + 0, none⟩ : Addr).block) = w.heap.size from rfl, hh] at this; cases this
  | some X => exact (Array.getElem?_eq_some_iff.1 hh).1
end Go.Proofs.YtpojalbpekbfdabDoor
/- Package tree: a node equals itself. -/
namespace Go.Proofs.YtpojalbpekbfdabDoor
open Go Go.RowKit
set_option linter.unusedSimpArgs false
set_option linter.unusedVariables false
set_option maxRecDepth 100000

theorem eq_32' {x : List Int} (hx : L32 x) (w : World) : (Op.equalIn 9999 25 (.agg (bv x).toArray) (.agg (bv x).toArray)).run Tryd.prog w = .ok true w := by
  obtain ⟨i, hi⟩ : ∃ i, Tryd.prog.info? 5 = some i := by
    cases h : Tryd.prog.info? 5 with
    | none => have := size_u8'; rw [h] at this; cases this
    | some i => exact ⟨i, rfl⟩
  have := run_equalIn_array (P := Tryd.prog) w 9998 (bv x).toArray (bv x).toArray Tryd.underlying25 hi
  rw [cmp_items x x hx.len hx.len 9997 w _ (fun i hi => List.mem_range.1 hi), all_gi hx.len hx.len] at this
  simpa using this
theorem part32 (w : World) (xs : Array Value) (off : Nat) : (part 25 xs off).run Tryd.prog w = .ok (.agg (xs.extract off (off + 32))) w := by
  obtain ⟨i, hi, hs⟩ : ∃ i, Tryd.prog.info? 25 = some i ∧ i.size = 32 := by
    have h1 : (Tryd.prog.info? 25).map (·.size) = some 32 := by kernel_rfl
    cases h : Tryd.prog.info? 25 with
    | none => rw [h] at h1; cases h1
    | some i => rw [h] at h1; exact ⟨i, rfl, Option.some.inj h1⟩
  simp [part, run_underlying Tryd.underlying25, sizeOf, typeInfo, hi, hs]
theorem ext_p {x : Nd} (h : x.Ok) : (nc x).toArray.extract 1 (1 + 32) = (bv x.p).toArray := by
  rw [List.extract_toArray]; congr 1
  simp [nc, List.extract, bv_length, h.p.len, List.take_append]
theorem ext_h {x : Nd} (h : x.Ok) : (nc x).toArray.extract 33 (33 + 32) = (bv x.h).toArray := by
  rw [List.extract_toArray]; congr 1
  simp [nc, List.extract, bv_length, h.p.len, h.h.len, List.drop_append]
  exact List.take_of_length_le (by rw [bv_length, h.h.len]; omega)
set_option maxHeartbeats 1000000 in
theorem eq_nd {x : Nd} (h : x.Ok) (w : World) : (Op.equalIn 10000 33 (.agg (nc x).toArray) (.agg (nc x).toArray)).run Tryd.prog w = .ok true w := by
  have hf := run_equalIn_struct (P := Tryd.prog) w 9999 33 (nc x).toArray (nc x).toArray (by kernel_rfl) (by kernel_rfl)
  refine hf.trans ?_
  have hp : Tryd.prog.plainKey 3 = true := by kernel_rfl
  have a0 := run_part_plain (P := Tryd.prog) w hp (xs := (nc x).toArray) (off := 0) (v := .int .i64 x.n) rfl
  have i64 : ∀ z : Int, (Op.equalIn 9999 3 (.int .i64 z) (.int .i64 z)).run Tryd.prog w = .ok true w := fun z => by
    refine (run_equalIn_int (P := Tryd.prog) w 9998 3 .i64 .i64 z z Tryd.underlying3).trans ?_; simp
  have p1 := part32 w (nc x).toArray 1
  have p2 := part32 w (nc x).toArray 33
  rw [ext_p h] at p1
  rw [ext_h h] at p2
  have hfs : (Tryd.prog.fieldsOf 33).toList.map (fun f => (f.name == "_", f.type, f.offset)) = [(false, 3, 0), (false, 25, 1), (false, 25, 33)] := by kernel_rfl
  obtain ⟨C, hC⟩ : ∃ C, (nc x).toArray = C := ⟨_, rfl⟩
  rw [hC] at a0 p1 p2 ⊢
  have key : ∀ (fs : List Field) (l : List (Bool × TypeId × Nat)), fs.map (fun f => (f.name == "_", f.type, f.offset)) = l → (∀ q ∈ l, q.1 = false ∧ ∃ v, (part q.2.1 C q.2.2).run Tryd.prog w = .ok v w ∧ (Op.equalIn 9999 q.2.1 v v).run Tryd.prog w = .ok true w) → (Op.eqFields 9999 C C fs).run Tryd.prog w = .ok true w := by
    intro fs
    induction fs with
    | nil => intro l _ _; simp [Op.eqFields]
    | cons f fs ih =>
      intro l hl hq
      subst hl
      obtain ⟨hn, v, hv, he⟩ := hq (f.name == "_", f.type, f.offset) (by simp)
      have hn' : f.name ≠ "_" := by simpa using hn
      have := ih _ rfl (fun q hq' => hq q (by simp only [List.map_cons]; exact List.mem_cons_of_mem _ hq'))
      unfold Op.eqFields
      rw [if_pos hn']
      simp only [Sem.run_bind, hv, he, Result.andThen_ok, Bool.not_true, Bool.false_eq_true, if_false]
      exact this
  refine key _ _ hfs (fun q hq => ?_)
  simp only [List.mem_cons, List.not_mem_nil, or_false] at hq
  rcases hq with rfl | rfl | rfl
  · exact ⟨rfl, _, a0, i64 _⟩
  · exact ⟨rfl, _, p1, eq_32' h.p w⟩
  · exact ⟨rfl, _, p2, eq_32' h.h w⟩
theorem eql_nd {x : Nd} (h : x.Ok) (w : World) : (binOp .eql 33 (.agg (nc x).toArray) (.agg (nc x).toArray)).run Tryd.prog w = .ok (.bool true) w := by
  have h : (Op.equalIn Op.maxDepth 33 (.agg (nc x).toArray) (.agg (nc x).toArray)).run Tryd.prog w = .ok true w := eq_nd h w
  simp [binOp, h, Op.equal, go_sem]
theorem eqg_nd (op : BinOp) (x y : Operand) (a b : Array Value) (w : World) : (eqGuard op 33 x y (.agg a) (.agg b)).run Tryd.prog w = .ok () w := by
  have h : Tryd.prog.eqGuardType Tryd.prog.depth 33 = false := by kernel_rfl
  unfold eqGuard
  cases op <;> first | (simp [h, Result.andThen]; done) | kernel_rfl
/-- An equality whose run is known. -/
theorem wp_eq_run {P : Program} {ops : Array Oper} {rest : List Oper} {o : Oper} {a : Act} {w : World} {Q : Exit → Act → World → Prop} (t t' : TypeId) (x y : Operand) (ho : o.op = .binOp .eql t x y t') (hw : Region.wanted o (yielded ops a.tmps) = true) (v u r : Value) (hx : a.eval x = v) (hy : a.eval y = u)
    (hg : (eqGuard .eql t x y v u).run P w = .ok () w) (hr : (binOp .eql t v u).run P w = .ok r w) (h : wpList P ops Q rest (a.put o.dst r) w) : wpList P ops Q (o :: rest) a w := by
  unfold wpList
  rw [if_pos hw]
  refine .inl ?_
  unfold Oper.wp execOp
  simp only [ho, hx, hy, Sem.run_bind, hg, hr, Result.andThen_ok, Sem.run_pure]
  exact h
end Go.Proofs.YtpojalbpekbfdabDoor
/- Rows of nodes of a call's own: made, appended to; leaves that come in. -/
namespace Go.Proofs.YtpojalbpekbfdabDoor
open Go Go.RowKit
set_option linter.unusedSimpArgs false
set_option linter.unusedVariables false
set_option maxRecDepth 100000

/-- Nodes in a row of the call's own, from the block B on. -/
def NO (B : Nat) (w : World) (v : Value) (l : List Nd) : Prop := w.ownsRow B 33 65 v l.length (ncs l) ∧ (∀ x ∈ l, x.Ok) ∧ B ≤ w.heap.size
theorem NO.ns {B : Nat} {w : World} {v : Value} {l : List Nd} (h : NO B w v l) : NS w v l := ns_row h.2.1 h.1
theorem NO.alloc {B : Nat} {w : World} {v : Value} {l : List Nd} (h : NO B w v l) (o : Obj) : NO B (w.alloc o) v l := ⟨h.1.alloc o, h.2.1, by have := h.2.2; simp; omega⟩
theorem NO.nil (w : World) : NO w.heap.size w (.slice none 0 0) [] := ⟨World.ownsRow_nil _ _ _ _, (fun x hx => by cases hx), Nat.le_refl _⟩
theorem NO.nil' {B : Nat} {w : World} (hB : B ≤ w.heap.size) : NO B w (.slice none 0 0) [] := ⟨World.ownsRow_nil _ _ _ _, (fun x hx => by cases hx), hB⟩
theorem own_keep {B : Nat} {e : TypeId} {s n : Nat} {xs : List Value} {w w' : World} {v : Value} (h : w.ownsRow B e s v n xs) (hb : Below w.heap.size w w') : w'.ownsRow B e s v n xs :=
  h.kept (row := none) ⟨hb.os, hb.tape, hb.output, hb.size, fun k hk _ => hb.block k hk⟩ (by
    cases hq : v.ownBlock with
    | none => exact .inl rfl
    | some b => exact .inr (by simp))
theorem NO.below {B : Nat} {w w' : World} {v : Value} {l : List Nd} (h : NO B w v l) (hb : Below w.heap.size w w') : NO B w' v l := ⟨own_keep h.1 hb, h.2.1, Nat.le_trans h.2.2 hb.size⟩
theorem ncs_app (l m : List Nd) : ncs (l ++ m) = ncs l ++ ncs m := by simp [ncs]
/-- Nodes behind nodes of the call's own. -/
theorem app_own {B : Nat} {w : World} {v u : Value} {l m : List Nd} (h : NO B w v l) (hkm : ∀ x ∈ m, x.Ok) (hu : NS w u m) (hlen : l.length + m.length ≤ 3000000000000) :
    ∃ v' w', (Builtin.append_ #[28, 28] 28 #[v, u]).run Tryd.prog w = .ok v' w' ∧ NO B w' v' (l ++ m) ∧ Below B w w' ∧ w.grownBy w' v.ownBlock := by
  obtain ⟨i, z, hi, hz, hs, hb, hzs⟩ := info_nd
  obtain ⟨ho, hkl, hB⟩ := h
  have hkk : ∀ x ∈ l ++ m, x.Ok := fun x hx => by
    rcases List.mem_append.1 hx with q | q
    · exact hkl x q
    · exact hkm x q
  have hbytes : ((l.length + m.length) + (l.length + m.length) / 4 + 192) * 72 ≤ 281474976710656 := Nat.le_trans (Nat.mul_le_mul_right 72 (show (l.length + m.length) + (l.length + m.length) / 4 + 192 ≤ 3750000000192 by omega)) (by decide)
  have fin : ∀ w', w.grownBy w' v.ownBlock → Below B w w' := fun w' g => (Below.refl B w).grown g hB (fun k e => (ho.lt k e).1)
  obtain ⟨ad, cap, rfl, hc, ⟨rfl, hn⟩ | ⟨b, o, rfl, hlt, hm⟩⟩ := hu
  · cases ad with
    | none =>
      obtain rfl := hn rfl
      refine ⟨_, _, run_append_owned_none (P := Tryd.prog) w B _ _ _ i 65 Tryd.underlying28 hi _ _ _ ho, ?_, Below.refl _ _, ⟨rfl, rfl, rfl, Nat.le_refl _, fun _ _ _ => rfl⟩⟩
      rw [List.append_nil]; exact ⟨ho, hkl, hB⟩
    | some A =>
      obtain ⟨v', w', hr, h2, h3, -⟩ := run_append_own_wide (P := Tryd.prog) w B 28 28 33 i z 65 72 Tryd.underlying28 hi hz hs hb hzs (by decide) _ _ _ ho A 0 cap [] rfl (fun j u hu => by simp at hu) (fun _ h => by cases h) (by unfold maxLen; simp at hlen ⊢; omega) (by simpa using hbytes) hB
      rw [Nat.add_zero, List.append_nil] at h2
      refine ⟨v', w', hr, ?_, fin w' h3, h3⟩
      rw [List.append_nil]
      exact ⟨h2, hkl, Nat.le_trans hB h3.size⟩
  · obtain ⟨v', w', hr, h2, h3, -⟩ := run_append_own_wide (P := Tryd.prog) w B 28 28 33 i z 65 72 Tryd.underlying28 hi hz hs hb hzs (by decide) _ _ _ ho ⟨b, o, none⟩ m.length cap (ncs m) (ncs_length hkm) (fun j u hu => by rw [addr_add0]; exact ncs_at hkm hm j u hu) (ncs_one m) (by unfold maxLen; omega) hbytes hB
    refine ⟨v', w', hr, ⟨?_, hkk, Nat.le_trans hB h3.size⟩, fin w' h3, h3⟩
    rw [List.length_append, ncs_app]; exact h2
theorem make_own (w : World) (n : Nat) (hn : n ≤ 3000000000000) :
    ∃ w', (Instr.makeSlice 28 (.int .i64 0) (.int .i64 (n : Int))).run Tryd.prog w = .ok (.slice (some ⟨w.heap.size, 0, none⟩) 0 n) w' ∧ NO w.heap.size w' (.slice (some ⟨w.heap.size, 0, none⟩) 0 n) [] ∧ Below w.heap.size w w' := by
  obtain ⟨i, z, hi, hz, hs, hb, hzs⟩ := info_nd
  obtain ⟨w', hr, h1, h2⟩ := run_make_own (P := Tryd.prog) w w.heap.size 28 33 i z 65 Tryd.underlying28 hi hz hs .i64 .i64 n (by rw [hb]; omega) (by unfold maxLen; omega) (Nat.le_refl _)
  exact ⟨w', hr, ⟨h1, (fun x hx => by cases hx), h2.size⟩, (Below.refl _ w).grown h2 (Nat.le_refl _) (fun k e => by cases e)⟩
theorem zero_cells_nd : ∃ i, Tryd.prog.info? 33 = some i ∧ i.zero = some (.agg (nc ndz).toArray) ∧ i.size = 65 := by
  have h1 : (Tryd.prog.info? 33).map (·.size) = some 65 := by kernel_rfl
  have h2 : (Tryd.prog.info? 33).bind (·.zero) = some (.agg (nc ndz).toArray) := by kernel_rfl
  cases hq : Tryd.prog.info? 33 with
  | none => rw [hq] at h1; cases h1
  | some i => rw [hq] at h1 h2; exact ⟨i, rfl, h2, Option.some.inj h1⟩
theorem run_onen (w : World) {x : Nd} (hx : x.Ok) : (Instr.buildSlice 28 1 #[(0, .agg (nc x).toArray)]).run Tryd.prog w = .ok (.slice (some ⟨w.heap.size, 0, none⟩) 1 1) (w.alloc (.cells (nc x).toArray 33)) := by
  obtain ⟨i, hi, hz, hs⟩ := zero_cells_nd
  have h1 := nc_length hx
  have hb : i.bytes = 72 := by
    obtain ⟨i', z', hi', -, -, hb, -⟩ := info_nd
    rw [hi] at hi'; cases hi'; exact hb
  refine run_buildSlice w 28 33 1 _ (nc x).toArray i _ Tryd.underlying28 hi hz (by omega) (by omega) ?_
  have := _root_.Go.Great.fill_whole (s := i.size) (by omega) [.agg (nc x).toArray] ((Array.range (1 * i.size)).map ((Value.agg (nc ndz).toArray).cells[· % (Value.agg (nc ndz).toArray).cells.size]!)) (by intro v hv; simp at hv; subst hv; simp [Value.cells, hs, h1]) (by simp)
  simpa [Value.cells] using this
theorem wpList_onen {ops : Array Oper} {rest : List Oper} {o : Oper} {a : Act} {w : World} {Q : Exit → Act → World → Prop} (hg : o.guard = none) (y : Operand) (ho : o.op = .buildSlice 28 1 #[(0, y)]) (x : Nd) (hx : x.Ok) (hy : a.eval y = .agg (nc x).toArray)
    (h : wpList Tryd.prog ops Q rest (a.put o.dst (.slice (some ⟨w.heap.size, 0, none⟩) 1 1)) (w.alloc (.cells (nc x).toArray 33))) : wpList Tryd.prog ops Q (o :: rest) a w := by
  refine wpList_plain hg fun K hK => ?_
  have hr := run_onen w hx
  unfold Oper.wp
  simp only [execOp, ho, List.map_toArray, List.map_cons, List.map_nil, hy, Sem.run_bind, hr, Result.andThen_ok, Sem.run_pure]
  exact hK _ _ h
theorem ns_one (w : World) (x : Nd) (t : TypeId) : NS (w.alloc (.cells (nc x).toArray t)) (.slice (some ⟨w.heap.size, 0, none⟩) 1 1) [x] :=
  ⟨_, 1, rfl, Nat.le_refl _, .inr ⟨w.heap.size, 0, rfl, by simp, fun i z hi => by
    cases i with
    | zero => simp at hi; subst hi; exact range_alloc w (nc x) t (0, 0)
    | succ i => simp at hi⟩⟩
/-- append of nodes onto a row of the call's own, within a walk. -/
theorem wp_appn {ops : Array Oper} {rest : List Oper} {o : Oper} {a : Act} {w : World} {Q : Exit → Act → World → Prop} (hgd : o.guard = none) (s x : Operand) (ho : o.op = .call { callee := .builtin .append, args := #[s, x], argTypes := #[28, 28] }) (hT : o.type = 28)
    (B : Nat) (v u : Value) (l m : List Nd) (hs : a.eval s = v) (hx : a.eval x = u) (h0 : NO B w v l) (hkm : ∀ x ∈ m, x.Ok) (hu : NS w u m) (hlen : l.length + m.length ≤ 3000000000000)
    (h : ∀ v' w', NO B w' v' (l ++ m) → Below B w w' → wpList Tryd.prog ops Q rest (a.put o.dst v') w') : wpList Tryd.prog ops Q (o :: rest) a w := by
  obtain ⟨v', w', hr, h1, h2, -⟩ := app_own h0 hkm hu hlen
  exact wp_app_run hgd s x 28 ho 28 hT v u v' w' hs hx hr (h v' w' h1 h2)
theorem wp_appg {ops : Array Oper} {rest : List Oper} {o : Oper} {a : Act} {w : World} {Q : Exit → Act → World → Prop} (hgd : o.guard = none) (s x : Operand) (ho : o.op = .call { callee := .builtin .append, args := #[s, x], argTypes := #[28, 28] }) (hT : o.type = 28)
    (B : Nat) (v u : Value) (l m : List Nd) (hs : a.eval s = v) (hx : a.eval x = u) (h0 : NO B w v l) (hkm : ∀ x ∈ m, x.Ok) (hu : NS w u m) (hlen : l.length + m.length ≤ 3000000000000)
    (h : ∀ v' w', NO B w' v' (l ++ m) → Below B w w' → w.grownBy w' v.ownBlock → wpList Tryd.prog ops Q rest (a.put o.dst v') w') : wpList Tryd.prog ops Q (o :: rest) a w := by
  obtain ⟨v', w', hr, h1, h2, h3⟩ := app_own h0 hkm hu hlen
  exact wp_app_run hgd s x 28 ho 28 hT v u v' w' hs hx hr (h v' w' h1 h2 h3)
/-- A leaf. -/
structure Lf where
  p : List Int
  q : List Int
structure Lf.Ok (x : Lf) : Prop where
  p : L32 x.p
  q : L32 x.q
def lfc (x : Lf) : List Value := lf x.p x.q
theorem lfc_length {x : Lf} (h : x.Ok) : (lfc x).length = 64 := lf_length h.p h.q
/-- A leaf's node. -/
def ln (x : Lf) : Nd := lnd x.p x.q
theorem ln_ok {x : Lf} (h : x.Ok) : (ln x).Ok := ⟨h.p, hs_l32 _⟩
theorem ln_gd {x : Lf} (h : x.Ok) : gd (ln x) = true := gd_iff.2 ⟨by show (0 : Int) ≤ 256; omega, by show (256 : Int) ≤ 256; omega, fb_full h.p⟩
/-- A slice that holds these leaves. -/
def LS (w : World) (v : Value) (l : List Lf) : Prop := ∃ ad cap, v = .slice ad l.length cap ∧ l.length ≤ cap ∧ ((l = [] ∧ (ad = none → cap = 0)) ∨ ∃ b o, ad = some ⟨b, o, none⟩ ∧ b < w.heap.size ∧ ∀ (i : Nat) (x : Lf), l[i]? = some x → w.rangeAt b (o + i * 64) (lfc x))
theorem LS.below {w w' : World} {v : Value} {l : List Lf} (h : LS w v l) (hb : Below w.heap.size w w') : LS w' v l := by
  obtain ⟨ad, cap, rfl, hc, h⟩ := h
  refine ⟨ad, cap, rfl, hc, ?_⟩
  rcases h with h | ⟨b, o, rfl, hlt, hm⟩
  · exact .inl h
  · exact .inr ⟨b, o, rfl, Nat.lt_of_lt_of_le hlt hb.size, fun i x hi => range_below (hm i x hi) hb hlt⟩
def lfz : Lf := ⟨z32, z32⟩
theorem lfz_ok : lfz.Ok := ⟨z32_l32, z32_l32⟩
theorem zero_lf (w : World) : (zeroValue 27).run Tryd.prog w = .ok (.agg (lfc lfz).toArray) w := by kernel_rfl
theorem size_lf' : (Tryd.prog.info? 27).map (·.size) = some 64 := by kernel_rfl
theorem size_lfc {x : Lf} (h : x.Ok) : (Tryd.prog.info? 27).map (·.size) = some (lfc x).length := by rw [lfc_length h]; exact size_lf'
theorem lfc_one (x : Lf) : (lfc x).toArray.all (·.oneCell') = true := all_oneCell_toArray (fun u hu => by
  unfold lfc lf at hu
  rcases List.mem_append.1 hu with hu | hu
  · exact bv_one _ u hu
  · exact bv_one _ u hu)
end Go.Proofs.YtpojalbpekbfdabDoor
