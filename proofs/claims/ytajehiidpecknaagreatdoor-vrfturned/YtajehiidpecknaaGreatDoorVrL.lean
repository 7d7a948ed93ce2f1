import Derived.Test.YtajehiidpecknaaGreatDoorVrK
import Derived.Test.YtajehiidpecknaaGreatDoorRows
import Derived.OpenShut
import Derived.ChangeOld
import Derived.ProofKit
import Derived.Deep.DeepHandedRow
import Derived.Lib.LaidTab
import Derived.Test.YtajehiidpecknaaGreatDoorVrH
set_option linter.all false
namespace Go.Proofs.YtajehiidpecknaaGreatDoor.Wi
open Go Go.RowKit
set_option maxRecDepth 100000
theorem EV:sfunG Tryz.prog (Ve.EF Ve.R0) Ve.MA 200 Tryz.f16 (ag Tryz.f16) []=some ([],.agg (bv exS).toArray):=by kernel_rfl
theorem FC (w:World) (hw:Glo Ve.MA w):Calls Tryz.prog 16 #[] w fun e w'=>e = .returned (.agg (bv exS).toArray)∧Below w.heap.size w w' :=
 aH Ve.nG mixed Ve.fM Ve.nJ Tryz.func16 (by kernel_rfl) EV (fun p hp=>by cases hp) rfl (.inl (gG _)) w hw
theorem ph {w:World} {b:Nat} {x:List Int} (h:w.rangeAt b 0 (bv x)) (i:Nat) (z:Int) (hi:x[i]? = some z):w.cell? ⟨b,i,none⟩=some (.int .u8 z):=by
 have:=h i (.int .u8 z) (by unfold bv;rw [List.getElem?_map,hi];rfl)
 rwa [Nat.zero_add] at this
theorem JL (w:World) (hg:Glo Ve.MA w):Calls Tryz.prog 9 #[.agg (bv exS).toArray,.slice none 0 0] w fun e w'=>e = .returned (.tuple #[.agg (bv exR).toArray,.int .i64 0])∧Below w.heap.size w w':=by
 have h:=zV exS [] IU Byt.nil (Nat.zero_le _) (.slice none 0 0) w (Ow.nil w.heap.size w).sl hg
 rw [OE,NT] at h
 exact h
set_option maxHeartbeats 2000000 in
theorem Bc (w:World) (hg:Glo Ve.MA w):Calls Tryz.prog 8 #[] w fun e w'=>e = .returned (.bool true)∧Below w.heap.size w w':=by
 have hz:=eP
 obtain ⟨Z,hZ⟩ : ∃ Z,(bv (List.replicate 80 0)).toArray=Z:=⟨_,rfl⟩
 have hZs:Z.size=80:=by rw [←hZ];simp [bv]
 have HZS:Hid (Z.size=80):=hZs
 rw [hZ] at hz
 have HG:Hid (Glo Ve.MA w):=hg
 have HPX:Hid (∀ W,Glo Ve.MA W→Calls Tryz.prog 9 #[.agg (bv exS).toArray,.slice none 0 0] W fun e w'=>e = .returned (.tuple #[.agg (bv exR).toArray,.int .i64 0])∧Below W.heap.size W w'):=JL
 have HSD:Hid (∀ W,Glo Ve.MA W→Calls Tryz.prog 16 #[] W fun e w'=>e = .returned (.agg (bv exS).toArray)∧Below W.heap.size W w'):=FC
 obtain ⟨s,hs⟩ : ∃ s,exS=s:=⟨_,rfl⟩
 obtain ⟨R,hR⟩ : ∃ s,exR=s:=⟨_,rfl⟩
 have HRL:Hid (R.length=80):=by rw [←hR];exact Io
 have HR0:Hid (R[0]? = some 134∧R[1]? = some 87∧R[79]? = some 5):=by rw [←hR];exact ⟨rfl,rfl,rfl⟩
 rw [hs] at HPX HSD
 rw [hR] at HPX
 clear hs hR hg hZ hZs
 go_enter Tryz.func8,Tryz.ntmps8
 go_upto_region 2 with (first
  | (go_at_call 16;refine (HSD.out w HG.out).mono ?_;rintro e W1 ⟨rfl,g1⟩;have B1:Hid (Below w.heap.size w W1):=g1;have G1:Hid (Glo Ve.MA W1):=aE HG.out g1;clear g1)
  | (go_at_call 9;refine (HPX.out W1 G1.out).mono ?_;rintro e W2 ⟨rfl,g1⟩;have B2:Hid (Below w.heap.size w W2):=Below.tr' B1.out g1;clear g1)
  | (refine wpList_store_mid rfl 25 (.tmp 1) (.tmp 6) rfl W2.heap.size 0 (bv R).toArray rfl rfl (bK W2 (HRL.out) HZS.out) (aC (HRL.out) ct) (ar _) ?_;simp only [YN]))
 obtain ⟨e1,he1⟩ : ∃ n,W2.heap.size=n:=⟨_,rfl⟩
 obtain ⟨W3,hW3⟩ : ∃ W,(W2.alloc (.cells Z 25)).setCells W2.heap.size 0 (bv R)=W:=⟨_,rfl⟩
 obtain ⟨l1,l2,l3⟩:=aS (by rw [ae,HRL.out,HZS.out]) (by rw [ae,HRL.out];omega) hW3
 have BW3:Hid (Below W2.heap.size W2 W3):=l2
 have R1:Hid (W3.rangeAt e1 0 (bv R)):=by rw [←he1];exact l1
 have L1:Hid (e1<W3.heap.size):=by rw [←he1];exact l3
 try rw [hW3]
 try rw [he1]
 clear l1 l2 l3 hW3 he1
 have c0:W3.cell? ⟨e1,0,none⟩=some (.int .u8 134):=ph R1.out 0 134 HR0.out.1
 have c1:W3.cell? ⟨e1,1,none⟩=some (.int .u8 87):=ph R1.out 1 87 HR0.out.2.1
 have c2:W3.cell? ⟨e1,79,none⟩=some (.int .u8 5):=ph R1.out 79 5 HR0.out.2.2
 have BW:Hid (Below w.heap.size w W3):=Below.tr' B2.out BW3.out
 clear R1 L1 BW3
 go_wp2_with fail
 go_ret
 exact ⟨rfl,BW.out⟩
end Go.Proofs.YtajehiidpecknaaGreatDoor.Wi
namespace Go.Proofs.YtajehiidpecknaaGreatDoor.Ve
open Go Go.ChangeShapes Go.WideShapes Go.ChangeAt Go.RowKit
set_option maxRecDepth 100000
theorem gE {P:Program} {W:World} {n:String} {d:DataW Unit} {rest:List (String × DataW Unit)} (h:laidMet P ((n,d) :: rest) W):laidMet P rest W:=by
 obtain ⟨ps,⟨g,t,cs,fuel,p,q,e1,e2,e3,e4,hr,rfl⟩,hnd,hrows⟩:=h
 exact ⟨q,hr,(List.nodup_append.1 hnd).2.1,fun b off hp=>hrows b off (List.mem_append_right _ hp)⟩
theorem ja {W:World} {name:String} {g:Nat} {zs:List Int} {k:IntKind} {t:TypeId} {cells:List Value} (hS:W.ShapedOpen Tryz.prog) (hg:Tryz.prog.globalNamed name=some g) (hl:g<Tryz.prog.globals.size)
  (ht:(((begin Tryz.prog (fun _ _=>0) default).world.heap[g]?).bind Obj.row?).map Prod.snd=some t) (hT:Lib.TabIs Tryz.prog W name k zs) (hz:(zs.map fun z=>Value.int k z)=cells) :
  W.heap[g]? = some (.cells cells.toArray t (0,0)):=by
 obtain ⟨q,hq,hq2⟩:=Option.map_eq_some_iff.1 ht
 obtain ⟨zero,t⟩:=q
 simp only at hq2
 subst hq2
 obtain ⟨cs,h1,_,_⟩:=hS.1 g zero _ hl hq
 unfold Lib.TabIs World.var? at hT
 rw [hg,Option.bind_some,h1] at hT
 simp only [qG] at hT
 rw [h1,hT,hz]
theorem G3:Tryz.prog.cellsOf 5=1:=by kernel_rfl
theorem Jb:Tryz.prog.cellsOf 66=1:=by kernel_rfl
def Ib:List Int:=[7640891576956012808,13503953896175478587,4354685564936845355,11912009170470909681,5840696475078001361,11170449401992604703,2270897969802886507,6620516959819538809]
def Fx:List Int:=[4794697086780616226,8158064640168781261,13096744586834688815,16840607885511220156,4131703408338449720,6480981068601479193,10538285296894168987,12329834152419229976,15566598209576043074,1334009975649890238,2608012711638119052,6128411473006802146,8268148722764581231,9286055187155687089,11230858885718282805,13951009754708518548,16472876342353939154,17275323862435702243,1135362057144423861,2597628984639134821,3308224258029322869,5365058923640841347,6679025012923562964,8573033837759648693,10970295158949994411,12119686244451234320,12683024718118986047,13788192230050041572,14330467153632333762,15395433587784984357,489312712824947311,1452737877330783856,2861767655752347644,3322285676063803686,5560940570517711597,5996557281743188959,7280758554555802590,8532644243296465576,9350256976987008742,10552545826968843579,11727347734174303076,12113106623233404929,14000437183269869457,14369950271660146224,15101387698204529176,15463397548674623760,17586052441742319658,1182934255886127544,1847814050463011016,2177327727835720531,2830643537854262169,3796741975233480872,4115178125766777443,5681478168544905931,6601373596472566643,7507060721942968483,8399075790359081724,8693463985226723168,9568029438360202098,10144078919501101548,10430055236837252648,11840083180663258601,13761210420658862357,14299343276471374635,14566680578165727644,15097957966210449927,16922976911328602910,17689382322260857208,500013540394364858,748580250866718886,1242879168328830382,1977374033974150939,2944078676154940804,3659926193048069267,4368137639120453308,4836135668995329356,5532061633213252278,6448918945643986474,6902733635092675308,7801388544844847127]
def zJ:List Int:=[1,0,0,0,0,0,0,0,0,0,0,0,0,0,0,0,0,0,0,0,0,0,0,0,0,0,0,0,0,0,0,0]
def nd:List Int:=[163,120,89,19,202,77,235,117,171,216,65,65,77,10,112,0,152,232,121,119,121,64,199,140,115,254,111,43,238,108,3,82]
def eN:List Int:=[26,213,37,143,96,45,86,201,178,167,37,149,96,199,44,105,92,220,214,253,49,226,164,192,254,83,110,205,211,54,105,33]
def eO:List Int:=[88,102,102,102,102,102,102,102,102,102,102,102,102,102,102,102,102,102,102,102,102,102,102,102,102,102,102,102,102,102,102,102]
theorem Po:(Ib.map fun z=>Value.int .u64 z)=sqL:=by kernel_rfl
theorem MS : Tryz.prog.globalNamed "beacon/sha2.squares512" = some 0 := by kernel_rfl
theorem M7:(Tryz.prog.globals[0]?).map (·.type)=some 86:=by kernel_rfl
theorem NY:0<Tryz.prog.globals.size:=of_decide_eq_true (by kernel_rfl)
theorem Mm:(((begin Tryz.prog (fun _ _=>0) default).world.heap[0]?).bind Obj.row?).map Prod.snd=some 86:=by kernel_rfl
theorem Mz:Tryz.prog.cellsOf 86=8:=by kernel_rfl
theorem KF {W : World} {rest : List (String × DataW Unit)} (hS : W.ShapedOpen Tryz.prog) (h : laidMet Tryz.prog (("beacon/sha2.squares512", Lib.tabData .u64 Ib) :: rest) W) : W.heap[0]? = some (.cells sqL.toArray 86 (0, 0)) :=
 ja hS MS NY Mm (Lib.tabIs_of_head MS M7 Tryz.underlying86 Tryz.underlying66 Jb Mz h) Po
theorem P7:(Fx.map fun z=>Value.int .u64 z)=cuL:=by kernel_rfl
theorem NW : Tryz.prog.globalNamed "beacon/sha2.cubes512" = some 3 := by kernel_rfl
theorem MB:(Tryz.prog.globals[3]?).map (·.type)=some 109:=by kernel_rfl
theorem Oc:3<Tryz.prog.globals.size:=of_decide_eq_true (by kernel_rfl)
theorem Nm:(((begin Tryz.prog (fun _ _=>0) default).world.heap[3]?).bind Obj.row?).map Prod.snd=some 109:=by kernel_rfl
theorem LZ:Tryz.prog.cellsOf 109=80:=by kernel_rfl
theorem KA {W : World} {rest : List (String × DataW Unit)} (hS : W.ShapedOpen Tryz.prog) (h : laidMet Tryz.prog (("beacon/sha2.cubes512", Lib.tabData .u64 Fx) :: rest) W) : W.heap[3]? = some (.cells cuL.toArray 109 (0, 0)) :=
 ja hS NW Oc Nm (Lib.tabIs_of_head NW MB Tryz.underlying109 Tryz.underlying66 Jb LZ h) P7
theorem M6:(zJ.map fun z=>Value.int .u8 z)=(bl 1):=by kernel_rfl
theorem Jo : Tryz.prog.globalNamed "beacon/point.one" = some 4 := by kernel_rfl
theorem La:(Tryz.prog.globals[4]?).map (·.type)=some 22:=by kernel_rfl
theorem JJ:4<Tryz.prog.globals.size:=of_decide_eq_true (by kernel_rfl)
theorem JR:(((begin Tryz.prog (fun _ _=>0) default).world.heap[4]?).bind Obj.row?).map Prod.snd=some 22:=by kernel_rfl
theorem Kc:Tryz.prog.cellsOf 22=32:=by kernel_rfl
theorem Gg {W : World} {rest : List (String × DataW Unit)} (hS : W.ShapedOpen Tryz.prog) (h : laidMet Tryz.prog (("beacon/point.one", Lib.tabData .u8 zJ) :: rest) W) : W.heap[4]? = some (.cells ((bl 1)).toArray 22 (0, 0)) :=
 ja hS Jo JJ JR (Lib.tabIs_of_head Jo La Tryz.underlying22 Tryz.underlying5 G3 Kc h) M6
theorem I4:(nd.map fun z=>Value.int .u8 z)=(bl DN'):=by kernel_rfl
theorem zL : Tryz.prog.globalNamed "beacon/point.curve" = some 5 := by kernel_rfl
theorem Bm:(Tryz.prog.globals[5]?).map (·.type)=some 22:=by kernel_rfl
theorem D7:5<Tryz.prog.globals.size:=of_decide_eq_true (by kernel_rfl)
theorem Ep:(((begin Tryz.prog (fun _ _=>0) default).world.heap[5]?).bind Obj.row?).map Prod.snd=some 22:=by kernel_rfl
theorem BI:Tryz.prog.cellsOf 22=32:=by kernel_rfl
theorem zY {W : World} {rest : List (String × DataW Unit)} (hS : W.ShapedOpen Tryz.prog) (h : laidMet Tryz.prog (("beacon/point.curve", Lib.tabData .u8 nd) :: rest) W) : W.heap[5]? = some (.cells ((bl DN')).toArray 22 (0, 0)) :=
 ja hS zL D7 Ep (Lib.tabIs_of_head zL Bm Tryz.underlying22 Tryz.underlying5 G3 BI h) I4
theorem sy:(eN.map fun z=>Value.int .u8 z)=(bl GX):=by kernel_rfl
theorem kg : Tryz.prog.globalNamed "beacon/point.generatorX" = some 1 := by kernel_rfl
theorem pA:(Tryz.prog.globals[1]?).map (·.type)=some 22:=by kernel_rfl
theorem pD:1<Tryz.prog.globals.size:=of_decide_eq_true (by kernel_rfl)
theorem py:(((begin Tryz.prog (fun _ _=>0) default).world.heap[1]?).bind Obj.row?).map Prod.snd=some 22:=by kernel_rfl
theorem pH:Tryz.prog.cellsOf 22=32:=by kernel_rfl
theorem nY {W : World} {rest : List (String × DataW Unit)} (hS : W.ShapedOpen Tryz.prog) (h : laidMet Tryz.prog (("beacon/point.generatorX", Lib.tabData .u8 eN) :: rest) W) : W.heap[1]? = some (.cells ((bl GX)).toArray 22 (0, 0)) :=
 ja hS kg pD py (Lib.tabIs_of_head kg pA Tryz.underlying22 Tryz.underlying5 G3 pH h) sy
theorem ti:(eO.map fun z=>Value.int .u8 z)=(bl GY):=by kernel_rfl
theorem kl : Tryz.prog.globalNamed "beacon/point.generatorY" = some 2 := by kernel_rfl
theorem pF:(Tryz.prog.globals[2]?).map (·.type)=some 22:=by kernel_rfl
theorem pE:2<Tryz.prog.globals.size:=of_decide_eq_true (by kernel_rfl)
theorem pB:(((begin Tryz.prog (fun _ _=>0) default).world.heap[2]?).bind Obj.row?).map Prod.snd=some 22:=by kernel_rfl
theorem pI:Tryz.prog.cellsOf 22=32:=by kernel_rfl
theorem oN {W : World} {rest : List (String × DataW Unit)} (hS : W.ShapedOpen Tryz.prog) (h : laidMet Tryz.prog (("beacon/point.generatorY", Lib.tabData .u8 eO) :: rest) W) : W.heap[2]? = some (.cells ((bl GY)).toArray 22 (0, 0)) :=
 ja hS kl pE pB (Lib.tabIs_of_head kl pF Tryz.underlying22 Tryz.underlying5 G3 pI h) ti
def L6 : List (String × DataW Unit) := [("beacon/sha2.squares512", Lib.tabData .u64 Ib), ("beacon/sha2.cubes512", Lib.tabData .u64 Fx), ("beacon/point.one", Lib.tabData .u8 zJ), ("beacon/point.curve", Lib.tabData .u8 nd), ("beacon/point.generatorX", Lib.tabData .u8 eN), ("beacon/point.generatorY", Lib.tabData .u8 eO)]
theorem Pl {W:World} (hS:W.ShapedOpen Tryz.prog) (h:laidMet Tryz.prog L6 W):Glo MA W:=by
 have h1:=KF hS h
 have h:=gE h
 have h2:=KA hS h
 have h:=gE h
 have h3:=Gg hS h
 have h:=gE h
 have h4:=zY hS h
 have h:=gE h
 have h5:=nY hS h
 have h:=gE h
 have h6:=oN hS h
 unfold MA
 exact Ve.Glo.set (Ve.Glo.set (Ve.Glo.set (Ve.Glo.set (Ve.Glo.set (Ve.Glo.set (Ve.Glo.rep _ _) h6) h4) h3) h5) h1) h2
end Go.Proofs.YtajehiidpecknaaGreatDoor.Ve
namespace Go.Proofs.YtajehiidpecknaaGreatDoor.Wi
open Go Go.RowKit
set_option maxRecDepth 100000
theorem MO {n:Nat} (x y:List Int) (hx:x.length=n) (hy:y.length=n) (d:Nat) (w:World) : ∀ is:List Nat,(∀ i ∈ is,i<n) →
  (Op.eqItems (d+1) 5 (Tryz.prog.cellsOf 5) (bv x).toArray (bv y).toArray is).run Tryz.prog w = .ok (is.all fun i=>gi x i == gi y i) w
 | [],_=>by simp [Op.eqItems]
 | i :: is,h=>by
  have hi:=h i (by simp)
  have hc:Tryz.prog.cellsOf 5=1:=by kernel_rfl
  have hp:Tryz.prog.plainKey 5=true:=by kernel_rfl
  have p1:=run_part_plain (P:=Tryz.prog) w hp (xs:=(bv x).toArray) (off:=i) (v := .int .u8 (gi x i)) (by rw [List.getElem?_toArray];exact de x (by omega))
  have p2:=run_part_plain (P:=Tryz.prog) w hp (xs:=(bv y).toArray) (off:=i) (v := .int .u8 (gi y i)) (by rw [List.getElem?_toArray];exact de y (by omega))
  have p3:=run_equalIn_int (P:=Tryz.prog) w d 5 .u8 .u8 (gi x i) (gi y i) Tryz.underlying5
  have ih:=MO x y hx hy d w is (fun j hj=>h j (by simp [hj]))
  rw [hc] at ih
  simp only [Op.eqItems,hc,Nat.mul_one,Sem.run_bind,p1,p2,p3,Result.andThen_ok,List.all_cons]
  cases hq:(gi x i == gi y i) with
  | true=>simp only [Bool.not_true,Bool.false_eq_true,if_false,Bool.true_and];exact ih
  | false=>simp
theorem Pa {n:Nat} {x y:List Int} (hx:x.length=n) (hy:y.length=n):((List.range n).all fun i=>gi x i == gi y i)=decide (x=y):=by
 by_cases h:x=y
 ·subst h;simp
 ·rw [decide_eq_false h,List.all_eq_false]
  refine Classical.byContradiction fun hn=>h ?_
  apply List.ext_getElem (by omega)
  intro i h1 h2
  have:gi x i=gi y i:=by
   refine Classical.byContradiction fun hne=>hn ⟨i,List.mem_range.2 (by omega),?_⟩
   simpa using hne
  simpa [gi,h1,h2] using this
theorem GA : ∃ i,Tryz.prog.info? 5=some i:=by
 cases h:Tryz.prog.info? 5 with
 | none=>have:=eh;rw [h] at this;cases this
 | some i=>exact ⟨i,rfl⟩
theorem eqN {t:TypeId} {n:Nat} (hu:Tryz.prog.underlying t=some (.array n 5)) {x y:List Int} (hx:x.length=n) (hy:y.length=n) (w:World):(Op.equalIn Op.maxDepth t (.agg (bv x).toArray) (.agg (bv y).toArray)).run Tryz.prog w = .ok (decide (x=y)) w:=by
 obtain ⟨i,hi⟩:=GA
 have:=run_equalIn_array (P:=Tryz.prog) w 9999 (bv x).toArray (bv y).toArray hu hi
 rw [MO x y hx hy 9998 w _ (fun i hi=>List.mem_range.1 hi),Pa hx hy] at this
 exact this
theorem Pz {t:TypeId} {n:Nat} (hu:Tryz.prog.underlying t=some (.array n 5)) {x y:List Int} (hx:x.length=n) (hy:y.length=n) (w:World):(binOp .neq t (.agg (bv x).toArray) (.agg (bv y).toArray)).run Tryz.prog w = .ok (.bool (!decide (x=y))) w:=by
 simp [binOp,eqN hu hx hy w,Op.equal,go_sem]
theorem Pb {t:TypeId} {n:Nat} (hu:Tryz.prog.underlying t=some (.array n 5)) {x y:List Int} (hx:x.length=n) (hy:y.length=n) (w:World):(binOp .eql t (.agg (bv x).toArray) (.agg (bv y).toArray)).run Tryz.prog w = .ok (.bool (decide (x=y))) w:=by
 simp [binOp,eqN hu hx hy w,Op.equal,go_sem]
theorem Lm (op:BinOp) (x y:Operand) (a b:Array Value) (w:World):(eqGuard op 47 x y (.agg a) (.agg b)).run Tryz.prog w = .ok () w:=by
 have h:Tryz.prog.eqGuardType Tryz.prog.depth 47=false:=by kernel_rfl
 unfold eqGuard
 cases op <;> first | (simp [h,Result.andThen];done) | kernel_rfl
theorem K9 (op:BinOp) (x y:Operand) (a b:Array Value) (w:World):(eqGuard op 29 x y (.agg a) (.agg b)).run Tryz.prog w = .ok () w:=by
 have h:Tryz.prog.eqGuardType Tryz.prog.depth 29=false:=by kernel_rfl
 unfold eqGuard
 cases op <;> first | (simp [h,Result.andThen];done) | kernel_rfl
theorem KE {P:Program} {ops:Array Oper} {rest:List Oper} {o:Oper} {a:Act} {w:World} {Q:Exit→Act→World→Prop} (b:BinOp) (t t':TypeId) (x y:Operand) (ho:o.op = .binOp b t x y t') (hw:Region.wanted o (yielded ops a.tmps)=true) (v u r:Value) (hx:a.eval x=v) (hy:a.eval y=u)
  (hg:(eqGuard b t x y v u).run P w = .ok () w) (hr:(binOp b t v u).run P w = .ok r w) (h:wpList P ops Q rest (a.put o.dst r) w):wpList P ops Q (o :: rest) a w:=by
 unfold wpList
 rw [if_pos hw]
 refine .inl ?_
 unfold Oper.wp execOp
 simp only [ho,hx,hy,Sem.run_bind,hg,hr,Result.andThen_ok,Sem.run_pure]
 exact h
end Go.Proofs.YtajehiidpecknaaGreatDoor.Wi
