/- What a law's world holds of the variables. -/
import Derived.Test.YtkhjnjlinfbfoaaGreatDoorVhA
import Derived.Test.YtkhjnjlinfbfoaaGreatDoorRows
import Derived.OpenShut
import Derived.ChangeOld
import Derived.ProofKit
import Derived.Deep.DeepHandedRow
import Derived.Lib.LaidTab
import Derived.Test.YtkhjnjlinfbfoaaGreatDoorVkA
set_option linter.unusedSimpArgs false
set_option linter.unusedVariables false
namespace Go.Proofs.YtkhjnjlinfbfoaaGreatDoor.Ve
open Go Go.ChangeShapes Go.WideShapes Go.ChangeAt Go.RowKit
set_option maxRecDepth 100000
theorem laid_tail {P:Program} {W:World} {n:String} {d:DataW Unit} {rest:List (String × DataW Unit)} (h:laidMet P ((n,d) :: rest) W):laidMet P rest W:=by
 obtain ⟨ps,⟨g,t,cs,fuel,p,q,e1,e2,e3,e4,hr,rfl⟩,hnd,hrows⟩:=h
 exact ⟨q,hr,(List.nodup_append.1 hnd).2.1,fun b off hp=>hrows b off (List.mem_append_right _ hp)⟩
theorem blk_ofG {W:World} {name:String} {g:Nat} {zs:List Int} {k:IntKind} {t:TypeId} {cells:List Value} (hS:W.ShapedOpen Tryz.prog) (hg:Tryz.prog.globalNamed name=some g) (hl:g<Tryz.prog.globals.size)
  (ht:(((begin Tryz.prog (fun _ _=>0) default).world.heap[g]?).bind Obj.row?).map Prod.snd=some t) (hT:Lib.TabIs Tryz.prog W name k zs) (hz:(zs.map fun z=>Value.int k z)=cells) :
  W.heap[g]? = some (.cells cells.toArray t (0,0)):=by
 obtain ⟨q,hq,hq2⟩:=Option.map_eq_some_iff.1 ht
 obtain ⟨zero,t⟩:=q
 simp only at hq2
 subst hq2
 obtain ⟨cs,h1,_,_⟩:=hS.1 g zero _ hl hq
 unfold Lib.TabIs World.var? at hT
 rw [hg,Option.bind_some,h1] at hT
 simp only [qG] at hT
 rw [h1,hT,hz]
theorem c_u8:Tryz.prog.cellsOf 5=1:=by kernel_rfl
theorem c_u64:Tryz.prog.cellsOf 38=1:=by kernel_rfl
def n_sq:List Int:=[7640891576956012808,13503953896175478587,4354685564936845355,11912009170470909681,5840696475078001361,11170449401992604703,2270897969802886507,6620516959819538809]
def n_cu:List Int:=[4794697086780616226,8158064640168781261,13096744586834688815,16840607885511220156,4131703408338449720,6480981068601479193,10538285296894168987,12329834152419229976,15566598209576043074,1334009975649890238,2608012711638119052,6128411473006802146,8268148722764581231,9286055187155687089,11230858885718282805,13951009754708518548,16472876342353939154,17275323862435702243,1135362057144423861,2597628984639134821,3308224258029322869,5365058923640841347,6679025012923562964,8573033837759648693,10970295158949994411,12119686244451234320,12683024718118986047,13788192230050041572,14330467153632333762,15395433587784984357,489312712824947311,1452737877330783856,2861767655752347644,3322285676063803686,5560940570517711597,5996557281743188959,7280758554555802590,8532644243296465576,9350256976987008742,10552545826968843579,11727347734174303076,12113106623233404929,14000437183269869457,14369950271660146224,15101387698204529176,15463397548674623760,17586052441742319658,1182934255886127544,1847814050463011016,2177327727835720531,2830643537854262169,3796741975233480872,4115178125766777443,5681478168544905931,6601373596472566643,7507060721942968483,8399075790359081724,8693463985226723168,9568029438360202098,10144078919501101548,10430055236837252648,11840083180663258601,13761210420658862357,14299343276471374635,14566680578165727644,15097957966210449927,16922976911328602910,17689382322260857208,500013540394364858,748580250866718886,1242879168328830382,1977374033974150939,2944078676154940804,3659926193048069267,4368137639120453308,4836135668995329356,5532061633213252278,6448918945643986474,6902733635092675308,7801388544844847127]
def n_one:List Int:=[1,0,0,0,0,0,0,0,0,0,0,0,0,0,0,0,0,0,0,0,0,0,0,0,0,0,0,0,0,0,0,0]
def n_curve:List Int:=[163,120,89,19,202,77,235,117,171,216,65,65,77,10,112,0,152,232,121,119,121,64,199,140,115,254,111,43,238,108,3,82]
def n_generatorX:List Int:=[26,213,37,143,96,45,86,201,178,167,37,149,96,199,44,105,92,220,214,253,49,226,164,192,254,83,110,205,211,54,105,33]
def n_generatorY:List Int:=[88,102,102,102,102,102,102,102,102,102,102,102,102,102,102,102,102,102,102,102,102,102,102,102,102,102,102,102,102,102,102,102]
theorem z_sq:(n_sq.map fun z=>Value.int .u64 z)=sqL:=by kernel_rfl
theorem g_sq : Tryz.prog.globalNamed "beacon/sha2.squares512" = some 0 := by kernel_rfl
theorem gt_sq:(Tryz.prog.globals[0]?).map (·.type)=some 93:=by kernel_rfl
theorem gs_sq:0<Tryz.prog.globals.size:=of_decide_eq_true (by kernel_rfl)
theorem gw_sq:(((begin Tryz.prog (fun _ _=>0) default).world.heap[0]?).bind Obj.row?).map Prod.snd=some 93:=by kernel_rfl
theorem cc_sq:Tryz.prog.cellsOf 93=8:=by kernel_rfl
theorem blk_sq {W : World} {rest : List (String × DataW Unit)} (hS : W.ShapedOpen Tryz.prog) (h : laidMet Tryz.prog (("beacon/sha2.squares512", Lib.tabData .u64 n_sq) :: rest) W) : W.heap[0]? = some (.cells sqL.toArray 93 (0, 0)) :=
 blk_ofG hS g_sq gs_sq gw_sq (Lib.tabIs_of_head g_sq gt_sq Tryz.underlying93 Tryz.underlying38 c_u64 cc_sq h) z_sq
theorem z_cu:(n_cu.map fun z=>Value.int .u64 z)=cuL:=by kernel_rfl
theorem g_cu : Tryz.prog.globalNamed "beacon/sha2.cubes512" = some 3 := by kernel_rfl
theorem gt_cu:(Tryz.prog.globals[3]?).map (·.type)=some 103:=by kernel_rfl
theorem gs_cu:3<Tryz.prog.globals.size:=of_decide_eq_true (by kernel_rfl)
theorem gw_cu:(((begin Tryz.prog (fun _ _=>0) default).world.heap[3]?).bind Obj.row?).map Prod.snd=some 103:=by kernel_rfl
theorem cc_cu:Tryz.prog.cellsOf 103=80:=by kernel_rfl
theorem blk_cu {W : World} {rest : List (String × DataW Unit)} (hS : W.ShapedOpen Tryz.prog) (h : laidMet Tryz.prog (("beacon/sha2.cubes512", Lib.tabData .u64 n_cu) :: rest) W) : W.heap[3]? = some (.cells cuL.toArray 103 (0, 0)) :=
 blk_ofG hS g_cu gs_cu gw_cu (Lib.tabIs_of_head g_cu gt_cu Tryz.underlying103 Tryz.underlying38 c_u64 cc_cu h) z_cu
theorem z_one:(n_one.map fun z=>Value.int .u8 z)=(bl 1):=by kernel_rfl
theorem g_one : Tryz.prog.globalNamed "beacon/point.one" = some 5 := by kernel_rfl
theorem gt_one:(Tryz.prog.globals[5]?).map (·.type)=some 22:=by kernel_rfl
theorem gs_one:5<Tryz.prog.globals.size:=of_decide_eq_true (by kernel_rfl)
theorem gw_one:(((begin Tryz.prog (fun _ _=>0) default).world.heap[5]?).bind Obj.row?).map Prod.snd=some 22:=by kernel_rfl
theorem cc_one:Tryz.prog.cellsOf 22=32:=by kernel_rfl
theorem blk_one {W : World} {rest : List (String × DataW Unit)} (hS : W.ShapedOpen Tryz.prog) (h : laidMet Tryz.prog (("beacon/point.one", Lib.tabData .u8 n_one) :: rest) W) : W.heap[5]? = some (.cells ((bl 1)).toArray 22 (0, 0)) :=
 blk_ofG hS g_one gs_one gw_one (Lib.tabIs_of_head g_one gt_one Tryz.underlying22 Tryz.underlying5 c_u8 cc_one h) z_one
theorem z_curve:(n_curve.map fun z=>Value.int .u8 z)=(bl DN'):=by kernel_rfl
theorem g_curve : Tryz.prog.globalNamed "beacon/point.curve" = some 4 := by kernel_rfl
theorem gt_curve:(Tryz.prog.globals[4]?).map (·.type)=some 22:=by kernel_rfl
theorem gs_curve:4<Tryz.prog.globals.size:=of_decide_eq_true (by kernel_rfl)
theorem gw_curve:(((begin Tryz.prog (fun _ _=>0) default).world.heap[4]?).bind Obj.row?).map Prod.snd=some 22:=by kernel_rfl
theorem cc_curve:Tryz.prog.cellsOf 22=32:=by kernel_rfl
theorem blk_curve {W : World} {rest : List (String × DataW Unit)} (hS : W.ShapedOpen Tryz.prog) (h : laidMet Tryz.prog (("beacon/point.curve", Lib.tabData .u8 n_curve) :: rest) W) : W.heap[4]? = some (.cells ((bl DN')).toArray 22 (0, 0)) :=
 blk_ofG hS g_curve gs_curve gw_curve (Lib.tabIs_of_head g_curve gt_curve Tryz.underlying22 Tryz.underlying5 c_u8 cc_curve h) z_curve
theorem z_generatorX:(n_generatorX.map fun z=>Value.int .u8 z)=(bl GX):=by kernel_rfl
theorem g_generatorX : Tryz.prog.globalNamed "beacon/point.generatorX" = some 1 := by kernel_rfl
theorem gt_generatorX:(Tryz.prog.globals[1]?).map (·.type)=some 22:=by kernel_rfl
theorem gs_generatorX:1<Tryz.prog.globals.size:=of_decide_eq_true (by kernel_rfl)
theorem gw_generatorX:(((begin Tryz.prog (fun _ _=>0) default).world.heap[1]?).bind Obj.row?).map Prod.snd=some 22:=by kernel_rfl
theorem cc_generatorX:Tryz.prog.cellsOf 22=32:=by kernel_rfl
theorem blk_generatorX {W : World} {rest : List (String × DataW Unit)} (hS : W.ShapedOpen Tryz.prog) (h : laidMet Tryz.prog (("beacon/point.generatorX", Lib.tabData .u8 n_generatorX) :: rest) W) : W.heap[1]? = some (.cells ((bl GX)).toArray 22 (0, 0)) :=
 blk_ofG hS g_generatorX gs_generatorX gw_generatorX (Lib.tabIs_of_head g_generatorX gt_generatorX Tryz.underlying22 Tryz.underlying5 c_u8 cc_generatorX h) z_generatorX
theorem z_generatorY:(n_generatorY.map fun z=>Value.int .u8 z)=(bl GY):=by kernel_rfl
theorem g_generatorY : Tryz.prog.globalNamed "beacon/point.generatorY" = some 2 := by kernel_rfl
theorem gt_generatorY:(Tryz.prog.globals[2]?).map (·.type)=some 22:=by kernel_rfl
theorem gs_generatorY:2<Tryz.prog.globals.size:=of_decide_eq_true (by kernel_rfl)
theorem gw_generatorY:(((begin Tryz.prog (fun _ _=>0) default).world.heap[2]?).bind Obj.row?).map Prod.snd=some 22:=by kernel_rfl
theorem cc_generatorY:Tryz.prog.cellsOf 22=32:=by kernel_rfl
theorem blk_generatorY {W : World} {rest : List (String × DataW Unit)} (hS : W.ShapedOpen Tryz.prog) (h : laidMet Tryz.prog (("beacon/point.generatorY", Lib.tabData .u8 n_generatorY) :: rest) W) : W.heap[2]? = some (.cells ((bl GY)).toArray 22 (0, 0)) :=
 blk_ofG hS g_generatorY gs_generatorY gw_generatorY (Lib.tabIs_of_head g_generatorY gt_generatorY Tryz.underlying22 Tryz.underlying5 c_u8 cc_generatorY h) z_generatorY
def L6 : List (String × DataW Unit) := [("beacon/sha2.squares512", Lib.tabData .u64 n_sq), ("beacon/sha2.cubes512", Lib.tabData .u64 n_cu), ("beacon/point.one", Lib.tabData .u8 n_one), ("beacon/point.curve", Lib.tabData .u8 n_curve), ("beacon/point.generatorX", Lib.tabData .u8 n_generatorX), ("beacon/point.generatorY", Lib.tabData .u8 n_generatorY)]
theorem gloA {W:World} (hS:W.ShapedOpen Tryz.prog) (h:laidMet Tryz.prog L6 W):Glo MA W:=by
 have h1:=blk_sq hS h
 have h:=laid_tail h
 have h2:=blk_cu hS h
 have h:=laid_tail h
 have h3:=blk_one hS h
 have h:=laid_tail h
 have h4:=blk_curve hS h
 have h:=laid_tail h
 have h5:=blk_generatorX hS h
 have h:=laid_tail h
 have h6:=blk_generatorY hS h
 unfold MA
 exact Ve.Glo.set (Ve.Glo.set (Ve.Glo.set (Ve.Glo.set (Ve.Glo.set (Ve.Glo.set (Ve.Glo.rep _ _) h6) h4) h3) h5) h1) h2
end Go.Proofs.YtkhjnjlinfbfoaaGreatDoor.Ve
/- hashed: byte strings as a number, of the program and of the reference. -/
namespace Go.Proofs.YtkhjnjlinfbfoaaGreatDoor.Wi
open Go Go.RowKit
set_option maxRecDepth 100000
structure Res (w U:World) (Z:Array Value):Prop where
 below:Below w.heap.size w U
 size:U.heap.size=w.heap.size+1
 row:U.heap[w.heap.size]? = some (.cells Z 22 (0,0))
 len:Z.size=32
theorem Res.there {w U:World} {Z:Array Value} (h:Res w U Z) {W:World} (hb:Below U.heap.size U W):W.there w.heap.size 0 32 :=
 there_of_row' ((hb.block _ (by rw [h.size];omega)).trans h.row) 0 32 (by rw [h.len];exact Nat.le_refl _)
theorem res32 (w:World) : ∃ Z,(∀ W:World,(zeroValue 22).run Tryz.prog W = .ok (.agg Z) W)∧Res w (w.alloc (.cells Z 22)) Z :=
 ⟨_,zero_32,(Below.refl _ w).alloc (Nat.le_refl _) _,by simp,by show (w.heap.push _)[w.heap.size]? = _;simp,by simp [bv]⟩
def hd (xss:List (List Int)):List Int:=rd (h5 (joA xss))
theorem L32.hd (xss:List (List Int)):L32 (hd xss):=bi_l32 _
set_option maxHeartbeats 2000000 in
theorem hashed_any (xss:List (List Int)) (H:List Int) (hH:hd xss=H) (hb : ∀ m ∈ xss,Byt m) (hn:xss.length≤1000) (hl:(joA xss).length≤140737488354000) (v:Value) (w:World) (hv:LL w v xss) (hw:Gp w) :
  Calls Tryz.prog 13 #[v] w fun e w'=>e = .returned (.agg (bv H).toArray)∧Below w.heap.size w w':=by
 obtain ⟨Z,hz,rs⟩:=res32 w
 have HL:Hid (L32 H):=by rw [←hH];exact L32.hd _
 obtain ⟨J,hJ⟩ : ∃ J,joA xss=J:=⟨_,rfl⟩
 obtain ⟨G,hG⟩ : ∃ G,h5 J=G:=⟨_,rfl⟩
 have HJB:Hid (Byt J):=by rw [←hJ];exact jo_byt hb _
 have HGL:Hid (G.length=64∧Byt G):=by rw [←hG];exact ⟨h5_length _,h5_byt _⟩
 have HRD:Hid (rd G=H):=by show rd G=H;rw [←hH,hd,hJ,hG]
 have HJL:Hid (J.length≤140737488354000):=by show _≤_;rw [←hJ];exact hl
 have HGH:Hid (h5 J=G):=hG
 obtain ⟨U,hU⟩ : ∃ U,w.alloc (.cells Z 22)=U:=⟨_,rfl⟩
 rw [hU] at rs
 have RS:Hid (Res w U Z):=rs
 have HC:Hid (Calls Tryz.prog 36 #[v] U fun e w' => ∃ v',e = .returned v'∧Ow U.heap.size w' v' J∧Below U.heap.size U w'):=Concat_any xss J hJ v U (hv.below rs.below) (by rw [←hJ];omega) hn
 have HG:Hid (Gp U):=hw.below rs.below
 obtain ⟨D,hD⟩ : ∃ D,w.heap.size=D:=⟨_,rfl⟩
 have HD:Hid (w.heap.size=D):=hD
 clear hH hb hn hl hv hJ hG rs hw
 have hz1:=hz w
 go_enter Tryz.func13,Tryz.ntmps13
 go_upto_region 1 with (fail)
 try rw [hU]
 try rw [hD]
 clear hU hz hz1
 go_wp2_with (first
  | (go_at_call 36;refine HC.out.mono ?_;rintro e w1 ⟨v1,rfl,g1,g2⟩;have O1:Hid (Ow U.heap.size w1 v1 J):=g1;have B1:Hid (Below U.heap.size U w1):=g2;clear g1 g2)
  | (go_at_call 35;refine (sum512_sl J G v1 HGH.out HJL.out w1 (HG.out.below B1.out).tb HJB.out O1.out.sq).mono ?_;rintro e w2 ⟨rfl,g1⟩;have B2:Hid (Below U.heap.size U w2):=Below.tr' B1.out g1;clear g1)
  | (go_at_call 34;refine (red_sl HGL.out.1 HGL.out.2 w2).mono ?_;rintro e w3 ⟨rfl,g1⟩;rw [HRD.out];have B3:Hid (Below U.heap.size U w3):=Below.tr' B2.out g1;clear g1)
  | (refine wpList_store_mid rfl 22 (.tmp 2) (.tmp 6) rfl D 0 (bv H).toArray rfl rfl (by rw [List.size_toArray,bv_length,HL.out.len,←HD.out];exact RS.out.there B3.out) (by rw [List.size_toArray];exact size_l32 HL.out) (bv_one' _) ?_;simp only [List.toList_toArray]))
 have qq:(w3.setCells D 0 (bv H)).rangeAt D 0 (bv H):=World.rangeAt_setCells_same _ _ _ _ (by rw [bv_length,HL.out.len,←HD.out];exact RS.out.there B3.out)
 have hbl:Below w.heap.size w (w3.setCells D 0 (bv H)):=below_setCells (by rw [HD.out];exact Nat.le_refl _) _ _ (RS.out.below.trans (B3.out.mono RS.out.below.size))
 refine bodyPost_ret (v := .agg (bv H).toArray) ?_ rfl ⟨rfl,hbl⟩
 simp only [results,Tryz.results13]
 simp [Act.put,asAddr,run_loadVar_mid _ D 0 22 (bv H) _ qq Tryz.underlying22 rfl (size_l32 HL.out)]
set_option maxHeartbeats 2000000 in
theorem rhashed_any (xss:List (List Int)) (H:List Int) (hH:hd xss=H) (hb : ∀ m ∈ xss,Byt m) (hn:xss.length≤1000) (hl:(joA xss).length≤140737488354000) (v:Value) (w:World) (hv:LL w v xss) :
  Calls Tryz.prog 19 #[v] w fun e w'=>e = .returned (.agg (bv H).toArray)∧Below w.heap.size w w':=by
 obtain ⟨Z,hz,rs⟩:=res32 w
 have HL:Hid (L32 H):=by rw [←hH];exact L32.hd _
 obtain ⟨J,hJ⟩ : ∃ J,joA xss=J:=⟨_,rfl⟩
 obtain ⟨G,hG⟩ : ∃ G,h5 J=G:=⟨_,rfl⟩
 have HJB:Hid (Byt J):=by rw [←hJ];exact jo_byt hb _
 have HGL:Hid (G.length=64∧Byt G):=by rw [←hG];exact ⟨h5_length _,h5_byt _⟩
 have HRD:Hid (rd G=H):=by show rd G=H;rw [←hH,hd,hJ,hG]
 have HJL:Hid (J.length≤140737488354000):=by show _≤_;rw [←hJ];exact hl
 have HGH:Hid (h5 J=G):=hG
 obtain ⟨U,hU⟩ : ∃ U,w.alloc (.cells Z 22)=U:=⟨_,rfl⟩
 rw [hU] at rs
 have RS:Hid (Res w U Z):=rs
 have HC:Hid (Calls Tryz.prog 57 #[v] U fun e w' => ∃ v',e = .returned v'∧Ow U.heap.size w' v' J∧Below U.heap.size U w'):=rJoin_any xss J hJ v U (hv.below rs.below) (by rw [←hJ];omega) hn
 obtain ⟨D,hD⟩ : ∃ D,w.heap.size=D:=⟨_,rfl⟩
 have HD:Hid (w.heap.size=D):=hD
 clear hH hb hn hl hv hJ hG rs
 have hz1:=hz w
 go_enter Tryz.func19,Tryz.ntmps19
 go_upto_region 1 with (fail)
 try rw [hU]
 try rw [hD]
 clear hU hz hz1
 go_wp2_with (first
  | (go_at_call 57;refine HC.out.mono ?_;rintro e w1 ⟨v1,rfl,g1,g2⟩;have O1:Hid (Ow U.heap.size w1 v1 J):=g1;have B1:Hid (Below U.heap.size U w1):=g2;clear g1 g2)
  | (go_at_call 56;refine (rsum512_sl J G v1 HGH.out HJL.out w1 HJB.out O1.out.sq).mono ?_;rintro e w2 ⟨rfl,g1⟩;have B2:Hid (Below U.heap.size U w2):=Below.tr' B1.out g1;clear g1)
  | (go_at_call 55;refine (rred_sl HGL.out.1 HGL.out.2 w2).mono ?_;rintro e w3 ⟨rfl,g1⟩;rw [HRD.out];have B3:Hid (Below U.heap.size U w3):=Below.tr' B2.out g1;clear g1)
  | (refine wpList_store_mid rfl 22 (.tmp 2) (.tmp 6) rfl D 0 (bv H).toArray rfl rfl (by rw [List.size_toArray,bv_length,HL.out.len,←HD.out];exact RS.out.there B3.out) (by rw [List.size_toArray];exact size_l32 HL.out) (bv_one' _) ?_;simp only [List.toList_toArray]))
 have qq:(w3.setCells D 0 (bv H)).rangeAt D 0 (bv H):=World.rangeAt_setCells_same _ _ _ _ (by rw [bv_length,HL.out.len,←HD.out];exact RS.out.there B3.out)
 have hbl:Below w.heap.size w (w3.setCells D 0 (bv H)):=below_setCells (by rw [HD.out];exact Nat.le_refl _) _ _ (RS.out.below.trans (B3.out.mono RS.out.below.size))
 refine bodyPost_ret (v := .agg (bv H).toArray) ?_ rfl ⟨rfl,hbl⟩
 simp only [results,Tryz.results19]
 simp [Act.put,asAddr,run_loadVar_mid _ D 0 22 (bv H) _ qq Tryz.underlying22 rfl (size_l32 HL.out)]
end Go.Proofs.YtkhjnjlinfbfoaaGreatDoor.Wi
