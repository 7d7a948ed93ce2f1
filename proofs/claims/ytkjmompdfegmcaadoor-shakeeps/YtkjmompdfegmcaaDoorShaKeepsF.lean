/- PROVED: the statement of the law beaconlaw01.ShaKeeps: what is handed to the hashes, to a running one and to HMAC stays as it is, its spare room too, and is not kept; for every two slices of bytes; both are left as they were. -/
import Derived.Test.YtkjmompdfegmcaaDoorCards
import Derived.Test.YtkjmompdfegmcaaDoorTie
import Derived.Test.YtkjmompdfegmcaaDoorShaKeepsW
import Derived.Test.YtkjmompdfegmcaaDoorShaS
import Derived.WalkKit
import Derived.ProofKit
import Derived.OpenShut
import Derived.ShutString
import Derived.ChangeOld
import Derived.Below
import Derived.Deep.DeepHandedRow
import Derived.Lib.LaidTab
namespace Go.Proofs.YtkjmompdfegmcaaDoor.shaKeepsProof
open Go Go.ChangeShapes Go.WideShapes Go.ChangeAt Go.RowKit

theorem own : ownKnob Tryd.prog.godebug = none := by kernel_rfl
theorem laidOut : laidOutB Tryd.prog = true := by kernel_rfl
theorem laid_tail {P : Program} {W : World} {n : String} {d : DataW Unit} {rest : List (String × DataW Unit)} (h : laidMet P ((n, d) :: rest) W) : laidMet P rest W := by
  obtain ⟨ps, ⟨g, t, cs, fuel, p, q, e1, e2, e3, e4, hr, rfl⟩, hnd, hrows⟩ := h
  exact ⟨q, hr, (List.nodup_append.1 hnd).2.1, fun b off hp => hrows b off (List.mem_append_right _ hp)⟩
theorem g_squares256 : Tryd.prog.globalNamed "beacon/sha2.squares256" = some 1 := by kernel_rfl
theorem gt_squares256 : (Tryd.prog.globals[1]?).map (·.type) = some 37 := by kernel_rfl
theorem c_squares256 : Tryd.prog.cellsOf 37 = 8 := by kernel_rfl
theorem g_cubes256 : Tryd.prog.globalNamed "beacon/sha2.cubes256" = some 3 := by kernel_rfl
theorem gt_cubes256 : (Tryd.prog.globals[3]?).map (·.type) = some 42 := by kernel_rfl
theorem c_cubes256 : Tryd.prog.cellsOf 42 = 64 := by kernel_rfl
theorem g_squares512 : Tryd.prog.globalNamed "beacon/sha2.squares512" = some 0 := by kernel_rfl
theorem gt_squares512 : (Tryd.prog.globals[0]?).map (·.type) = some 47 := by kernel_rfl
theorem c_squares512 : Tryd.prog.cellsOf 47 = 8 := by kernel_rfl
theorem g_cubes512 : Tryd.prog.globalNamed "beacon/sha2.cubes512" = some 2 := by kernel_rfl
theorem gt_cubes512 : (Tryd.prog.globals[2]?).map (·.type) = some 54 := by kernel_rfl
theorem c_cubes512 : Tryd.prog.cellsOf 54 = 80 := by kernel_rfl
theorem c_u32 : Tryd.prog.cellsOf 36 = 1 := by kernel_rfl
theorem c_u64 : Tryd.prog.cellsOf 38 = 1 := by kernel_rfl
def n_squares256 : List Int := [1779033703, 3144134277, 1013904242, 2773480762, 1359893119, 2600822924, 528734635, 1541459225]
def n_cubes256 : List Int := [1116352408, 1899447441, 3049323471, 3921009573, 961987163, 1508970993, 2453635748, 2870763221, 3624381080, 310598401, 607225278, 1426881987, 1925078388, 2162078206, 2614888103, 3248222580, 3835390401, 4022224774, 264347078, 604807628, 770255983, 1249150122, 1555081692, 1996064986, 2554220882, 2821834349, 2952996808, 3210313671, 3336571891, 3584528711, 113926993, 338241895, 666307205, 773529912, 1294757372, 1396182291, 1695183700, 1986661051, 2177026350, 2456956037, 2730485921, 2820302411, 3259730800, 3345764771, 3516065817, 3600352804, 4094571909, 275423344, 430227734, 506948616, 659060556, 883997877, 958139571, 1322822218, 1537002063, 1747873779, 1955562222, 2024104815, 2227730452, 2361852424, 2428436474, 2756734187, 3204031479, 3329325298]
def n_squares512 : List Int := [7640891576956012808, 13503953896175478587, 4354685564936845355, 11912009170470909681, 5840696475078001361, 11170449401992604703, 2270897969802886507, 6620516959819538809]
def n_cubes512 : List Int := [4794697086780616226, 8158064640168781261, 13096744586834688815, 16840607885511220156, 4131703408338449720, 6480981068601479193, 10538285296894168987, 12329834152419229976, 15566598209576043074, 1334009975649890238, 2608012711638119052, 6128411473006802146, 8268148722764581231, 9286055187155687089, 11230858885718282805, 13951009754708518548, 16472876342353939154, 17275323862435702243, 1135362057144423861, 2597628984639134821, 3308224258029322869, 5365058923640841347, 6679025012923562964, 8573033837759648693, 10970295158949994411, 12119686244451234320, 12683024718118986047, 13788192230050041572, 14330467153632333762, 15395433587784984357, 489312712824947311, 1452737877330783856, 2861767655752347644, 3322285676063803686, 5560940570517711597, 5996557281743188959, 7280758554555802590, 8532644243296465576, 9350256976987008742, 10552545826968843579, 11727347734174303076, 12113106623233404929, 14000437183269869457, 14369950271660146224, 15101387698204529176, 15463397548674623760, 17586052441742319658, 1182934255886127544, 1847814050463011016, 2177327727835720531, 2830643537854262169, 3796741975233480872, 4115178125766777443, 5681478168544905931, 6601373596472566643, 7507060721942968483, 8399075790359081724, 8693463985226723168, 9568029438360202098, 10144078919501101548, 10430055236837252648, 11840083180663258601, 13761210420658862357, 14299343276471374635, 14566680578165727644, 15097957966210449927, 16922976911328602910, 17689382322260857208, 500013540394364858, 748580250866718886, 1242879168328830382, 1977374033974150939, 2944078676154940804, 3659926193048069267, 4368137639120453308, 4836135668995329356, 5532061633213252278, 6448918945643986474, 6902733635092675308, 7801388544844847127]

theorem laid_plain {W : World} (h : laidMetH Tryd.prog Rows.shaKeepsRow.laid W) : laidMet Tryd.prog Rows.shaKeepsRow.laid W := h
theorem tab_squares256 {W : World} (h : laidMetH Tryd.prog Rows.shaKeepsRow.laid W) : Lib.TabIs Tryd.prog W "beacon/sha2.squares256" .u32 n_squares256 :=
  Lib.tabIs_of_head g_squares256 gt_squares256 Tryd.underlying37 Tryd.underlying36 c_u32 c_squares256 (laid_plain h)
theorem tab_cubes256 {W : World} (h : laidMetH Tryd.prog Rows.shaKeepsRow.laid W) : Lib.TabIs Tryd.prog W "beacon/sha2.cubes256" .u32 n_cubes256 :=
  Lib.tabIs_of_head g_cubes256 gt_cubes256 Tryd.underlying42 Tryd.underlying36 c_u32 c_cubes256 (laid_tail (laid_plain h))
theorem tab_squares512 {W : World} (h : laidMetH Tryd.prog Rows.shaKeepsRow.laid W) : Lib.TabIs Tryd.prog W "beacon/sha2.squares512" .u64 n_squares512 :=
  Lib.tabIs_of_head g_squares512 gt_squares512 Tryd.underlying47 Tryd.underlying38 c_u64 c_squares512 (laid_tail (laid_tail (laid_plain h)))
theorem tab_cubes512 {W : World} (h : laidMetH Tryd.prog Rows.shaKeepsRow.laid W) : Lib.TabIs Tryd.prog W "beacon/sha2.cubes512" .u64 n_cubes512 :=
  Lib.tabIs_of_head g_cubes512 gt_cubes512 Tryd.underlying54 Tryd.underlying38 c_u64 c_cubes512 (laid_tail (laid_tail (laid_tail (laid_plain h))))
theorem sq_num : ∀ i : Fin 8, n_squares256.getD i.val 0 = u (H256.at i.val) := by decide +kernel
theorem cu_num : ∀ i : Fin 64, n_cubes256.getD i.val 0 = u (K256 i.val) := by decide +kernel
theorem tabs {W : World} (h : laidMetH Tryd.prog Rows.shaKeepsRow.laid W) : Tabs W K256 H256 :=
  ⟨fun i hi => by rw [(tab_squares256 h).cell g_squares256 i hi, sq_num ⟨i, hi⟩], fun i hi => by rw [(tab_cubes256 h).cell g_cubes256 i hi, cu_num ⟨i, hi⟩]⟩
theorem sq_num5 : ∀ i : Fin 8, n_squares512.getD i.val 0 = Q5.u (Q5.H512.at i.val) := by decide +kernel
theorem cu_num5 : ∀ i : Fin 80, n_cubes512.getD i.val 0 = Q5.u (Q5.K512 i.val) := by decide +kernel
theorem tabs5 {W : World} (h : laidMetH Tryd.prog Rows.shaKeepsRow.laid W) : Q5.Tabs W :=
  ⟨fun i hi => by rw [(tab_squares512 h).cell g_squares512 i hi, sq_num5 ⟨i, hi⟩], fun i hi => by rw [(tab_cubes512 h).cell g_cubes512 i hi, cu_num5 ⟨i, hi⟩]⟩

/-- WHAT THE WALK GIVES, FOR EVERY ARGUMENT AND EVERY WORLD THAT HOLDS THE TABLES. -/
theorem contract (H : Type) (enc : TypeId × Value → H) (W : World) (base : Nat) (args : Array Value) (ds gs : List (DataW H)) (before : List MemPlace)
    (hval0 : ∀ (j : Nat) t v, Tryd.f5.params[j]? = some t → args[j]? = some v → Value.okWide Tryd.prog W .any base t v)
    (hW : DataW.Whole enc Tryd.prog Tryd.f5.params.toList Rows.shaKeepsSpec.vars false W args.toList ds gs before) (hz0 : (DataW.weightsEach Tryd.prog (Tryd.f5.params.toList ++ (OpenSpec.ofChange Rows.shaKeepsSpec).bare.plain.varTypes Tryd.prog) (ds ++ gs)).all (· ≤ reachBytes) = true) (hL : laidMetH Tryd.prog Rows.shaKeepsRow.laid W) :
    Calls Tryd.prog 5 args W fun e W' => ∃ v, e = .returned v ∧ Rows.shaKeepsSpec.post enc Tryd.prog Tryd.f5 false true false false W args v W' := by
  have hval : ∀ (j : Nat) t v, Tryd.f5.params[j]? = some t → args[j]? = some v → Value.okWide Tryd.prog W .any base t v := hval0
  have hsz := hz0
  have hW' := hW
  obtain ⟨p, q, hA0, hV, rfl, hfz, hnd⟩ := hW
  have hA : DataW.TrodAll enc Tryd.prog W 0 (fun _ => true) true Tryd.f5.params.toList args.toList ds p := hA0
  rw [Tryd.params5] at hA hval hsz
  obtain ⟨v0, vs0, d0, ds0, p0, q0, hargs, rfl, rfl, h0, r0⟩ := trodAll_cons hA
  obtain ⟨v1, vs1, d1, ds1, p1, q1, rfl, rfl, rfl, h1, r1⟩ := trodAll_cons r0
  obtain ⟨rfl, rfl, rfl⟩ := trodAll_nil r1
  obtain rfl : args = #[v0, v1] := by cases args; simp_all
  obtain ⟨rfl, rfl⟩ := trodVars_none hV
  obtain ⟨a0, len0, cap0, rfl⟩ := okWide_slice Tryd.underlying22 (hval 0 22 v0 rfl rfl)
  have k0 := h0
  have lt0 : ∀ x ∈ p0, x.block < W.heap.size := by obtain ⟨m, hm⟩ := k0; exact DataW.trod_lt m _ _ _ hm
  obtain ⟨m0, b0, u0⟩ : ∃ m, Bytes W (.slice a0 len0 cap0) len0 m W.heap.size ∧ len0 ≤ reachBytes := by
    obtain ⟨fuel, hf⟩ := h0
    rcases open_ints Tryd.underlying22 Tryd.underlying5 (by kernel_rfl) hf with ⟨hcs, _⟩ | ⟨x, l, c, zs, hcs, _, hl, hm, hz, hx, hcell, hwz⟩
    · simp [Value.cells] at hcs
      obtain ⟨rfl, rfl, rfl⟩ := hcs
      exact ⟨fun _ => 0, .inl ⟨⟨_, rfl⟩, rfl⟩, Nat.zero_le _⟩
    · simp [Value.cells] at hcs
      obtain ⟨rfl, rfl, rfl⟩ := hcs
      obtain ⟨m, e1, _⟩ := bytes_of (hval 0 22 _ rfl rfl) hl (by simpa using hz) hcell hwz (congrArg Prod.fst hx)
      refine ⟨m, e1, ?_⟩
      have hs := sized_slice (j := 0) (t := 22) hsz rfl (congrArg some (congrArg Prod.fst hx)) Tryd.underlying22
      rw [show Tryd.prog.bytesOf 5 = 1 by kernel_rfl] at hs
      simp only [lits, List.length_map, List.length_take, List.length_drop] at hs
      have hz2 : zs.length = cap0 := by simpa using hz
      omega
  obtain ⟨a1, len1, cap1, rfl⟩ := okWide_slice Tryd.underlying22 (hval 1 22 v1 rfl rfl)
  have k1 := h1
  have lt1 : ∀ x ∈ p1, x.block < W.heap.size := by obtain ⟨m, hm⟩ := k1; exact DataW.trod_lt m _ _ _ hm
  obtain ⟨m1, b1, u1⟩ : ∃ m, Bytes W (.slice a1 len1 cap1) len1 m W.heap.size ∧ len1 ≤ reachBytes := by
    obtain ⟨fuel, hf⟩ := h1
    rcases open_ints Tryd.underlying22 Tryd.underlying5 (by kernel_rfl) hf with ⟨hcs, _⟩ | ⟨x, l, c, zs, hcs, _, hl, hm, hz, hx, hcell, hwz⟩
    · simp [Value.cells] at hcs
      obtain ⟨rfl, rfl, rfl⟩ := hcs
      exact ⟨fun _ => 0, .inl ⟨⟨_, rfl⟩, rfl⟩, Nat.zero_le _⟩
    · simp [Value.cells] at hcs
      obtain ⟨rfl, rfl, rfl⟩ := hcs
      obtain ⟨m, e1, _⟩ := bytes_of (hval 1 22 _ rfl rfl) hl (by simpa using hz) hcell hwz (congrArg Prod.fst hx)
      refine ⟨m, e1, ?_⟩
      have hs := sized_slice (j := 1) (t := 22) hsz rfl (congrArg some (congrArg Prod.fst hx)) Tryd.underlying22
      rw [show Tryd.prog.bytesOf 5 = 1 by kernel_rfl] at hs
      simp only [lits, List.length_map, List.length_take, List.length_drop] at hs
      have hz2 : zs.length = cap1 := by simpa using hz
      omega
  clear hA0 hval0
  simp only [List.append_nil] at hW'
  have hu0 : len0 ≤ 140737488351232 := u0
  have hu1 : len1 ≤ 140737488351232 := u1
  refine (shaKeeps_walk a0 len0 cap0 m0 a1 len1 cap1 m1 W (tabs hL) (tabs5 hL) hu0 hu1 b0 b1).mono fun e W' ⟨he, bel⟩ => ?_
  subst he
  exact ⟨_, rfl, _, _, _, [], _, [], hW', trodAll_mk1 (shut_bool Tryd.underlying4 _), (trodAll_cons_mk (Below.trod laidOut (by kernel_rfl) (of_decide_eq_true (by kernel_rfl)) k0 bel lt0) (trodAll_cons_mk (Below.trod laidOut (by kernel_rfl) (of_decide_eq_true (by kernel_rfl)) k1 bel lt1) (trodAll_mk0))), rfl, bel.frame _, fun h => by cases h⟩

def layTab (g : Nat) (cs : Array Value) (h : Array Obj) : Array Obj := h.modify g fun o => match o with | .cells _ t frozen => .cells cs t frozen | o => o
/-- A WORLD FOR THE WITNESS: the settled one, the tables holding what their initialisers lay. -/
noncomputable def laidWorld (os : Os) : World :=
  { World.holding Tryd.prog os ⟨#[], #[], []⟩ with heap := layTab 2 (n_cubes512.map fun z => Value.int .u64 z).toArray (layTab 0 (n_squares512.map fun z => Value.int .u64 z).toArray (layTab 3 (n_cubes256.map fun z => Value.int .u32 z).toArray (layTab 1 (n_squares256.map fun z => Value.int .u32 z).toArray ((World.holding Tryd.prog os ⟨#[], #[], []⟩).heap)))) }
theorem laid_met (os : Os) : laidMet Tryd.prog Rows.shaKeepsRow.laid ((laidWorld os).forCall (fun _ _ => 0) ⟨#[], #[.slice none 0 0, .slice none 0 0], []⟩).memory :=
  laidMet_of_run' 8 (by kernel_rfl) (by kernel_rfl)

set_option maxRecDepth 100000 in
theorem lifted (os : Os) (started : os.Started) (H : Type) (enc : TypeId × Value → H) (F : Stop.Interp) :
    ReturnsInHanded {} Tryd.checked os 5 .any ((OpenSpec.ofChange Rows.shaKeepsSpec).preRow enc Tryd.prog Tryd.f5 Rows.shaKeepsRow.domain false Rows.shaKeepsRow.laid) (((OpenSpec.ofChange Rows.shaKeepsSpec).at F).post enc Tryd.prog Tryd.f5 false true false false) := by
  obtain ⟨places, hx⟩ : ∃ places, DataW.whole enc Tryd.prog ((laidWorld os).forCall (fun _ _ => 0) ⟨#[], #[.slice none 0 0, .slice none 0 0], []⟩).memory Tryd.f5.params.toList Rows.shaKeepsSpec.vars false (#[.slice none 0 0, .slice none 0 0] : Array Value).toList 8 = some ([.nil, .nil], [], places) := ⟨[], by kernel_rfl⟩
  refine returnsInHanded_of_row (C := Tryd.checked) (s := OpenSpec.ofChange Rows.shaKeepsSpec) own started (by kernel_rfl) Tryd.func5
    (witness_row_at (enc := enc) (C := Tryd.checked) false (laidWorld os) #[.slice none 0 0, .slice none 0 0] rfl (by kernel_rfl) (by kernel_rfl) (by kernel_rfl)
      (OpenSpec.preRow_of_cond 8 hx (by kernel_rfl) (fun k hk => by cases hk) (by kernel_rfl) (laid_met os))) ?_
  intro W base args ds gs before hval hW _ _ hz hL _ _
  exact contract H enc W base args ds gs before hval hW hz hL

theorem said : Rows.ShaKeepsSaid :=
  OpenClaim.holds_of_cond 5 Tryd.f5 rfl rfl rfl rfl rfl rfl rfl ⟨rfl, rfl, rfl, rfl, rfl⟩ rfl rfl rfl rfl rfl (by kernel_rfl) Tryd.func5 (by kernel_rfl)
    (of_decide_eq_true (by kernel_rfl)) (by unfold Func.isWrapper; first | (rw [if_pos (by decide +kernel)]; kernel_rfl) | (rw [if_neg (by decide +kernel)]; exact ⟨rfl, rfl⟩))
    (fun os started H enc _ F => by rw [OpenClaim.pre_eq_preRow]; exact lifted os started H enc F)
theorem plain (f : FuncId) (fn : Func) (hf : Tryd.pinned.checked.prog.funcNamed "beacon/beaconlaw01.ShaKeeps" = some f) (hfn : Tryd.pinned.checked.prog.funcs[f]? = some fn) :
    false = Tryd.pinned.checked.prog.looks [] ∧ ∀ (j : Nat) t, fn.params[j]? = some t → Tryd.pinned.checked.prog.wantsStandIn t = false := by
  obtain rfl : f = 5 := Option.some.inj ((show Tryd.prog.funcNamed "beacon/beaconlaw01.ShaKeeps" = some 5 by kernel_rfl).symm.trans hf) |>.symm
  obtain rfl : fn = Tryd.f5 := (Option.some.inj (Tryd.func5.symm.trans hfn)).symm
  refine ⟨by kernel_rfl, fun j t ht => ?_⟩
  rw [Tryd.params5] at ht
  obtain rfl : t = 22 := by simpa using Array.mem_of_getElem? ht
  exact (show Tryd.prog.wantsStandIn 22 = false by kernel_rfl)
end Go.Proofs.YtkjmompdfegmcaaDoor.shaKeepsProof
namespace Go.Proofs.YtkjmompdfegmcaaDoor
open Go
/-- THE CARD. -/
theorem shaKeeps_holds : Rows.ShaKeepsCardSaid :=
  Claim7.holds_tied_plain_at .later [] _ _ _ _ shaKeepsProof.said (fun _ h => by cases h) (by kernel_rfl) (fun _ h => by cases h) shaKeeps_row_tie rfl ⟨rfl, rfl⟩ (by kernel_rfl) rfl shaKeepsProof.plain (by kernel_rfl)
end Go.Proofs.YtkjmompdfegmcaaDoor
