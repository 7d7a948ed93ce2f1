/- Layer 6: the law's seed and awake. -/
import Derived.Test.YtajehiidpecknaaGreatDoorVrK
import Derived.Test.YtajehiidpecknaaGreatDoorRows
import Derived.OpenShut
import Derived.ChangeOld
import Derived.ProofKit
import Derived.Deep.DeepHandedRow
import Derived.Lib.LaidTab
import Derived.Test.YtajehiidpecknaaGreatDoorVrH
set_option linter.all false
namespace Go.Proofs.YtajehiidpecknaaGreatDoor.Wi
open Go Go.RowKit
set_option maxRecDepth 100000
theorem CE:sfunG Tryz.prog (Ve.EF Ve.R0) Ve.MA 200 Tryz.f16 (ag Tryz.f16) []=some ([],.agg (bv exS).toArray):=by kernel_rfl
theorem Es (w:World) (hw:Glo Ve.MA w):Calls Tryz.prog 16 #[] w fun e w'=>e = .returned (.agg (bv exS).toArray)∧Below w.heap.size w w' :=
 aD Ve.oS mixed Ve.gJ Ve.oG Tryz.func16 (by kernel_rfl) CE (fun p hp=>by cases hp) rfl (.inl (gh _)) w hw
theorem mU {w:World} {b:Nat} {x:List Int} (h:w.rangeAt b 0 (bv x)) (i:Nat) (z:Int) (hi:x[i]? = some z):w.cell? ⟨b,i,none⟩=some (.int .u8 z):=by
 have:=h i (.int .u8 z) (by unfold bv;rw [List.getElem?_map,hi];rfl)
 rwa [Nat.zero_add] at this
theorem Ju (w:World) (hg:Glo Ve.MA w):Calls Tryz.prog 9 #[.agg (bv exS).toArray,.slice none 0 0] w fun e w'=>e = .returned (.tuple #[.agg (bv exR).toArray,.int .i64 0])∧Below w.heap.size w w':=by
 have h:=pK exS [] Gz Byt.nil (Nat.zero_le _) (.slice none 0 0) w (Ow.nil w.heap.size w).sl hg
 rw [MZ,Kf] at h
 exact h
set_option maxHeartbeats 2000000 in
theorem zQ (w:World) (hg:Glo Ve.MA w):Calls Tryz.prog 8 #[] w fun e w'=>e = .returned (.bool true)∧Below w.heap.size w w':=by
 have hz:=eG
 obtain ⟨Z,hZ⟩ : ∃ Z,(bv (List.replicate 80 0)).toArray=Z:=⟨_,rfl⟩
 have hZs:Z.size=80:=by rw [←hZ];simp [bv]
 have HZS:Hid (Z.size=80):=hZs
 rw [hZ] at hz
 have HG:Hid (Glo Ve.MA w):=hg
 have HPX:Hid (∀ W,Glo Ve.MA W→Calls Tryz.prog 9 #[.agg (bv exS).toArray,.slice none 0 0] W fun e w'=>e = .returned (.tuple #[.agg (bv exR).toArray,.int .i64 0])∧Below W.heap.size W w'):=Ju
 have HSD:Hid (∀ W,Glo Ve.MA W→Calls Tryz.prog 16 #[] W fun e w'=>e = .returned (.agg (bv exS).toArray)∧Below W.heap.size W w'):=Es
 obtain ⟨s,hs⟩ : ∃ s,exS=s:=⟨_,rfl⟩
 obtain ⟨R,hR⟩ : ∃ s,exR=s:=⟨_,rfl⟩
 have HRL:Hid (R.length=80):=by rw [←hR];exact DQ
 have HR0:Hid (R[0]? = some 134∧R[1]? = some 87∧R[79]? = some 5):=by rw [←hR];exact ⟨rfl,rfl,rfl⟩
 rw [hs] at HPX HSD
 rw [hR] at HPX
 clear hs hR hg hZ hZs
 go_enter Tryz.func8,Tryz.ntmps8
 go_upto_region 2 with (first
  | (go_at_call 16;refine (HSD.out w HG.out).mono ?_;rintro e W1 ⟨rfl,g1⟩;have B1:Hid (Below w.heap.size w W1):=g1;have G1:Hid (Glo Ve.MA W1):=aM HG.out g1;clear g1)
  | (go_at_call 9;refine (HPX.out W1 G1.out).mono ?_;rintro e W2 ⟨rfl,g1⟩;have B2:Hid (Below w.heap.size w W2):=Below.tr' B1.out g1;clear g1)
  | (refine wpList_store_mid rfl 25 (.tmp 1) (.tmp 6) rfl W2.heap.size 0 (bv R).toArray rfl rfl (bZ W2 (HRL.out) HZS.out) (aL (HRL.out) cG) (aE _) ?_;simp only [List.toList_toArray]))
 obtain ⟨e1,he1⟩ : ∃ n,W2.heap.size=n:=⟨_,rfl⟩
 obtain ⟨W3,hW3⟩ : ∃ W,(W2.alloc (.cells Z 25)).setCells W2.heap.size 0 (bv R)=W:=⟨_,rfl⟩
 obtain ⟨l1,l2,l3⟩:=a8 (by rw [aa,HRL.out,HZS.out]) (by rw [aa,HRL.out];omega) hW3
 have BW3:Hid (Below W2.heap.size W2 W3):=l2
 have R1:Hid (W3.rangeAt e1 0 (bv R)):=by rw [←he1];exact l1
 have L1:Hid (e1<W3.heap.size):=by rw [←he1];exact l3
 try rw [hW3]
 try rw [he1]
 clear l1 l2 l3 hW3 he1
 have c0:W3.cell? ⟨e1,0,none⟩=some (.int .u8 134):=mU R1.out 0 134 HR0.out.1
 have c1:W3.cell? ⟨e1,1,none⟩=some (.int .u8 87):=mU R1.out 1 87 HR0.out.2.1
 have c2:W3.cell? ⟨e1,79,none⟩=some (.int .u8 5):=mU R1.out 79 5 HR0.out.2.2
 have BW:Hid (Below w.heap.size w W3):=Below.tr' B2.out BW3.out
 clear R1 L1 BW3
 go_wp2_with fail
 go_ret
 exact ⟨rfl,BW.out⟩
end Go.Proofs.YtajehiidpecknaaGreatDoor.Wi
namespace Go.Proofs.YtajehiidpecknaaGreatDoor.Ve
open Go Go.ChangeShapes Go.WideShapes Go.ChangeAt Go.RowKit
set_option maxRecDepth 100000
theorem gq {P:Program} {W:World} {n:String} {d:DataW Unit} {rest:List (String × DataW Unit)} (h:laidMet P ((n,d) :: rest) W):laidMet P rest W:=by
 obtain ⟨ps,⟨g,t,cs,fuel,p,q,e1,e2,e3,e4,hr,rfl⟩,hnd,hrows⟩:=h
 exact ⟨q,hr,(List.nodup_append.1 hnd).2.1,fun b off hp=>hrows b off (List.mem_append_right _ hp)⟩
theorem iR {W:World} {name:String} {g:Nat} {zs:List Int} {k:IntKind} {t:TypeId} {cells:List Value} (hS:W.ShapedOpen Tryz.prog) (hg:Tryz.prog.globalNamed name=some g) (hl:g<Tryz.prog.globals.size)
  (ht:(((begin Tryz.prog (fun _ _=>0) default).world.heap[g]?).bind Obj.row?).map Prod.snd=some t) (hT:Lib.TabIs Tryz.prog W name k zs) (hz:(zs.map fun z=>Value.int k z)=cells) :
  W.heap[g]? = some (.cells cells.toArray t (0,0)):=by
 obtain ⟨q,hq,hq2⟩:=Option.map_eq_some_iff.1 ht
 obtain ⟨zero,t⟩:=q
 simp only at hq2
 subst hq2
 obtain ⟨cs,h1,_,_⟩:=hS.1 g zero _ hl hq
 unfold Lib.TabIs World.var? at hT
 rw [hg,Option.bind_some,h1] at hT
 simp only [qG] at hT
 rw [h1,hT,hz]
theorem DD:Tryz.prog.cellsOf 5=1:=by kernel_rfl
theorem GW:Tryz.prog.cellsOf 66=1:=by kernel_rfl
def DR:List Int:=[7640891576956012808,13503953896175478587,4354685564936845355,11912009170470909681,5840696475078001361,11170449401992604703,2270897969802886507,6620516959819538809]
def Fg:List Int:=[4794697086780616226,8158064640168781261,13096744586834688815,16840607885511220156,4131703408338449720,6480981068601479193,10538285296894168987,12329834152419229976,15566598209576043074,1334009975649890238,2608012711638119052,6128411473006802146,8268148722764581231,9286055187155687089,11230858885718282805,13951009754708518548,16472876342353939154,17275323862435702243,1135362057144423861,2597628984639134821,3308224258029322869,5365058923640841347,6679025012923562964,8573033837759648693,10970295158949994411,12119686244451234320,12683024718118986047,13788192230050041572,14330467153632333762,15395433587784984357,489312712824947311,1452737877330783856,2861767655752347644,3322285676063803686,5560940570517711597,5996557281743188959,7280758554555802590,8532644243296465576,9350256976987008742,10552545826968843579,11727347734174303076,12113106623233404929,14000437183269869457,14369950271660146224,15101387698204529176,15463397548674623760,17586052441742319658,1182934255886127544,1847814050463011016,2177327727835720531,2830643537854262169,3796741975233480872,4115178125766777443,5681478168544905931,6601373596472566643,7507060721942968483,8399075790359081724,8693463985226723168,9568029438360202098,10144078919501101548,10430055236837252648,11840083180663258601,13761210420658862357,14299343276471374635,14566680578165727644,15097957966210449927,16922976911328602910,17689382322260857208,500013540394364858,748580250866718886,1242879168328830382,1977374033974150939,2944078676154940804,3659926193048069267,4368137639120453308,4836135668995329356,5532061633213252278,6448918945643986474,6902733635092675308,7801388544844847127]
def yj:List Int:=[1,0,0,0,0,0,0,0,0,0,0,0,0,0,0,0,0,0,0,0,0,0,0,0,0,0,0,0,0,0,0,0]
def l5:List Int:=[163,120,89,19,202,77,235,117,171,216,65,65,77,10,112,0,152,232,121,119,121,64,199,140,115,254,111,43,238,108,3,82]
def eI:List Int:=[26,213,37,143,96,45,86,201,178,167,37,149,96,199,44,105,92,220,214,253,49,226,164,192,254,83,110,205,211,54,105,33]
def eH:List Int:=[88,102,102,102,102,102,102,102,102,102,102,102,102,102,102,102,102,102,102,102,102,102,102,102,102,102,102,102,102,102,102,102]
theorem NW:(DR.map fun z=>Value.int .u64 z)=sqL:=by kernel_rfl
theorem Me : Tryz.prog.globalNamed "beacon/sha2.squares512" = some 0 := by kernel_rfl
theorem Ll:(Tryz.prog.globals[0]?).map (·.type)=some 86:=by kernel_rfl
theorem K3:0<Tryz.prog.globals.size:=of_decide_eq_true (by kernel_rfl)
theorem Ls:(((begin Tryz.prog (fun _ _=>0) default).world.heap[0]?).bind Obj.row?).map Prod.snd=some 86:=by kernel_rfl
theorem Kz:Tryz.prog.cellsOf 86=8:=by kernel_rfl
theorem Ip {W : World} {rest : List (String × DataW Unit)} (hS : W.ShapedOpen Tryz.prog) (h : laidMet Tryz.prog (("beacon/sha2.squares512", Lib.tabData .u64 DR) :: rest) W) : W.heap[0]? = some (.cells sqL.toArray 86 (0, 0)) :=
 iR hS Me K3 Ls (Lib.tabIs_of_head Me Ll Tryz.underlying86 Tryz.underlying66 GW Kz h) NW
theorem Nt:(Fg.map fun z=>Value.int .u64 z)=cuL:=by kernel_rfl
theorem Ku : Tryz.prog.globalNamed "beacon/sha2.cubes512" = some 3 := by kernel_rfl
theorem Kq:(Tryz.prog.globals[3]?).map (·.type)=some 109:=by kernel_rfl
theorem Mi:3<Tryz.prog.globals.size:=of_decide_eq_true (by kernel_rfl)
theorem Lr:(((begin Tryz.prog (fun _ _=>0) default).world.heap[3]?).bind Obj.row?).map Prod.snd=some 109:=by kernel_rfl
theorem KA:Tryz.prog.cellsOf 109=80:=by kernel_rfl
theorem Hx {W : World} {rest : List (String × DataW Unit)} (hS : W.ShapedOpen Tryz.prog) (h : laidMet Tryz.prog (("beacon/sha2.cubes512", Lib.tabData .u64 Fg) :: rest) W) : W.heap[3]? = some (.cells cuL.toArray 109 (0, 0)) :=
 iR hS Ku Mi Lr (Lib.tabIs_of_head Ku Kq Tryz.underlying109 Tryz.underlying66 GW KA h) Nt
theorem Mo:(yj.map fun z=>Value.int .u8 z)=(bl 1):=by kernel_rfl
theorem G9 : Tryz.prog.globalNamed "beacon/point.one" = some 4 := by kernel_rfl
theorem Ig:(Tryz.prog.globals[4]?).map (·.type)=some 22:=by kernel_rfl
theorem IM:4<Tryz.prog.globals.size:=of_decide_eq_true (by kernel_rfl)
theorem Io:(((begin Tryz.prog (fun _ _=>0) default).world.heap[4]?).bind Obj.row?).map Prod.snd=some 22:=by kernel_rfl
theorem Jv:Tryz.prog.cellsOf 22=32:=by kernel_rfl
theorem EO {W : World} {rest : List (String × DataW Unit)} (hS : W.ShapedOpen Tryz.prog) (h : laidMet Tryz.prog (("beacon/point.one", Lib.tabData .u8 yj) :: rest) W) : W.heap[4]? = some (.cells ((bl 1)).toArray 22 (0, 0)) :=
 iR hS G9 IM Io (Lib.tabIs_of_head G9 Ig Tryz.underlying22 Tryz.underlying5 DD Jv h) Mo
theorem Ep:(l5.map fun z=>Value.int .u8 z)=(bl DN'):=by kernel_rfl
theorem xD : Tryz.prog.globalNamed "beacon/point.curve" = some 5 := by kernel_rfl
theorem CO:(Tryz.prog.globals[5]?).map (·.type)=some 22:=by kernel_rfl
theorem AA:5<Tryz.prog.globals.size:=of_decide_eq_true (by kernel_rfl)
theorem zZ:(((begin Tryz.prog (fun _ _=>0) default).world.heap[5]?).bind Obj.row?).map Prod.snd=some 22:=by kernel_rfl
theorem CV:Tryz.prog.cellsOf 22=32:=by kernel_rfl
theorem yK {W : World} {rest : List (String × DataW Unit)} (hS : W.ShapedOpen Tryz.prog) (h : laidMet Tryz.prog (("beacon/point.curve", Lib.tabData .u8 l5) :: rest) W) : W.heap[5]? = some (.cells ((bl DN')).toArray 22 (0, 0)) :=
 iR hS xD AA zZ (Lib.tabIs_of_head xD CO Tryz.underlying22 Tryz.underlying5 DD CV h) Ep
theorem qx:(eI.map fun z=>Value.int .u8 z)=(bl GX):=by kernel_rfl
theorem kc : Tryz.prog.globalNamed "beacon/point.generatorX" = some 1 := by kernel_rfl
theorem oa:(Tryz.prog.globals[1]?).map (·.type)=some 22:=by kernel_rfl
theorem nW:1<Tryz.prog.globals.size:=of_decide_eq_true (by kernel_rfl)
theorem nZ:(((begin Tryz.prog (fun _ _=>0) default).world.heap[1]?).bind Obj.row?).map Prod.snd=some 22:=by kernel_rfl
theorem nV:Tryz.prog.cellsOf 22=32:=by kernel_rfl
theorem mI {W : World} {rest : List (String × DataW Unit)} (hS : W.ShapedOpen Tryz.prog) (h : laidMet Tryz.prog (("beacon/point.generatorX", Lib.tabData .u8 eI) :: rest) W) : W.heap[1]? = some (.cells ((bl GX)).toArray 22 (0, 0)) :=
 iR hS kc nW nZ (Lib.tabIs_of_head kc oa Tryz.underlying22 Tryz.underlying5 DD nV h) qx
theorem sF:(eH.map fun z=>Value.int .u8 z)=(bl GY):=by kernel_rfl
theorem jX : Tryz.prog.globalNamed "beacon/point.generatorY" = some 2 := by kernel_rfl
theorem nQ:(Tryz.prog.globals[2]?).map (·.type)=some 22:=by kernel_rfl
theorem nX:2<Tryz.prog.globals.size:=of_decide_eq_true (by kernel_rfl)
theorem nY:(((begin Tryz.prog (fun _ _=>0) default).world.heap[2]?).bind Obj.row?).map Prod.snd=some 22:=by kernel_rfl
theorem nU:Tryz.prog.cellsOf 22=32:=by kernel_rfl
theorem mA {W : World} {rest : List (String × DataW Unit)} (hS : W.ShapedOpen Tryz.prog) (h : laidMet Tryz.prog (("beacon/point.generatorY", Lib.tabData .u8 eH) :: rest) W) : W.heap[2]? = some (.cells ((bl GY)).toArray 22 (0, 0)) :=
 iR hS jX nX nY (Lib.tabIs_of_head jX nQ Tryz.underlying22 Tryz.underlying5 DD nU h) sF
def L6 : List (String × DataW Unit) := [("beacon/sha2.squares512", Lib.tabData .u64 DR), ("beacon/sha2.cubes512", Lib.tabData .u64 Fg), ("beacon/point.one", Lib.tabData .u8 yj), ("beacon/point.curve", Lib.tabData .u8 l5), ("beacon/point.generatorX", Lib.tabData .u8 eI), ("beacon/point.generatorY", Lib.tabData .u8 eH)]
theorem M8 {W:World} (hS:W.ShapedOpen Tryz.prog) (h:laidMet Tryz.prog L6 W):Glo MA W:=by
 have h1:=Ip hS h
 have h:=gq h
 have h2:=Hx hS h
 have h:=gq h
 have h3:=EO hS h
 have h:=gq h
 have h4:=yK hS h
 have h:=gq h
 have h5:=mI hS h
 have h:=gq h
 have h6:=mA hS h
 unfold MA
 exact Ve.Glo.set (Ve.Glo.set (Ve.Glo.set (Ve.Glo.set (Ve.Glo.set (Ve.Glo.set (Ve.Glo.rep _ _) h6) h4) h3) h5) h1) h2
end Go.Proofs.YtajehiidpecknaaGreatDoor.Ve
namespace Go.Proofs.YtajehiidpecknaaGreatDoor.Wi
open Go Go.RowKit
set_option maxRecDepth 100000
theorem Lf {n:Nat} (x y:List Int) (hx:x.length=n) (hy:y.length=n) (d:Nat) (w:World) : ∀ is:List Nat,(∀ i ∈ is,i<n) →
  (Op.eqItems (d+1) 5 (Tryz.prog.cellsOf 5) (bv x).toArray (bv y).toArray is).run Tryz.prog w = .ok (is.all fun i=>gi x i == gi y i) w
 | [],_=>by simp [Op.eqItems]
 | i :: is,h=>by
  have hi:=h i (by simp)
  have hc:Tryz.prog.cellsOf 5=1:=by kernel_rfl
  have hp:Tryz.prog.plainKey 5=true:=by kernel_rfl
  have p1:=run_part_plain (P:=Tryz.prog) w hp (xs:=(bv x).toArray) (off:=i) (v := .int .u8 (gi x i)) (by rw [List.getElem?_toArray];exact cZ x (by omega))
  have p2:=run_part_plain (P:=Tryz.prog) w hp (xs:=(bv y).toArray) (off:=i) (v := .int .u8 (gi y i)) (by rw [List.getElem?_toArray];exact cZ y (by omega))
  have p3:=run_equalIn_int (P:=Tryz.prog) w d 5 .u8 .u8 (gi x i) (gi y i) Tryz.underlying5
  have ih:=Lf x y hx hy d w is (fun j hj=>h j (by simp [hj]))
  rw [hc] at ih
  simp only [Op.eqItems,hc,Nat.mul_one,Sem.run_bind,p1,p2,p3,Result.andThen_ok,List.all_cons]
  cases hq:(gi x i == gi y i) with
  | true=>simp only [Bool.not_true,Bool.false_eq_true,if_false,Bool.true_and];exact ih
  | false=>simp
theorem Nw {n:Nat} {x y:List Int} (hx:x.length=n) (hy:y.length=n):((List.range n).all fun i=>gi x i == gi y i)=decide (x=y):=by
 by_cases h:x=y
 ·subst h;simp
 ·rw [decide_eq_false h,List.all_eq_false]
  refine Classical.byContradiction fun hn=>h ?_
  apply List.ext_getElem (by omega)
  intro i h1 h2
  have:gi x i=gi y i:=by
   refine Classical.byContradiction fun hne=>hn ⟨i,List.mem_range.2 (by omega),?_⟩
   simpa using hne
  simpa [gi,h1,h2] using this
theorem Ey : ∃ i,Tryz.prog.info? 5=some i:=by
 cases h:Tryz.prog.info? 5 with
 | none=>have:=dX;rw [h] at this;cases this
 | some i=>exact ⟨i,rfl⟩
theorem eqN {t:TypeId} {n:Nat} (hu:Tryz.prog.underlying t=some (.array n 5)) {x y:List Int} (hx:x.length=n) (hy:y.length=n) (w:World):(Op.equalIn Op.maxDepth t (.agg (bv x).toArray) (.agg (bv y).toArray)).run Tryz.prog w = .ok (decide (x=y)) w:=by
 obtain ⟨i,hi⟩:=Ey
 have:=run_equalIn_array (P:=Tryz.prog) w 9999 (bv x).toArray (bv y).toArray hu hi
 rw [Lf x y hx hy 9998 w _ (fun i hi=>List.mem_range.1 hi),Nw hx hy] at this
 exact this
theorem K0 {t:TypeId} {n:Nat} (hu:Tryz.prog.underlying t=some (.array n 5)) {x y:List Int} (hx:x.length=n) (hy:y.length=n) (w:World):(binOp .eql t (.agg (bv x).toArray) (.agg (bv y).toArray)).run Tryz.prog w = .ok (.bool (decide (x=y))) w:=by
 simp [binOp,eqN hu hx hy w,Op.equal,go_sem]
theorem Jl (op:BinOp) (x y:Operand) (a b:Array Value) (w:World):(eqGuard op 29 x y (.agg a) (.agg b)).run Tryz.prog w = .ok () w:=by
 have h:Tryz.prog.eqGuardType Tryz.prog.depth 29=false:=by kernel_rfl
 unfold eqGuard
 cases op <;> first | (simp [h,Result.andThen];done) | kernel_rfl
theorem IA (op:BinOp) (x y:Operand) (a b:Array Value) (w:World):(eqGuard op 25 x y (.agg a) (.agg b)).run Tryz.prog w = .ok () w:=by
 have h:Tryz.prog.eqGuardType Tryz.prog.depth 25=false:=by kernel_rfl
 unfold eqGuard
 cases op <;> first | (simp [h,Result.andThen];done) | kernel_rfl
theorem Cg {P:Program} {ops:Array Oper} {rest:List Oper} {o:Oper} {a:Act} {w:World} {Q:Exit→Act→World→Prop} (b:BinOp) (t t':TypeId) (x y:Operand) (ho:o.op = .binOp b t x y t') (hw:Region.wanted o (yielded ops a.tmps)=true) (v u r:Value) (hx:a.eval x=v) (hy:a.eval y=u)
  (hg:(eqGuard b t x y v u).run P w = .ok () w) (hr:(binOp b t v u).run P w = .ok r w) (h:wpList P ops Q rest (a.put o.dst r) w):wpList P ops Q (o :: rest) a w:=by
 unfold wpList
 rw [if_pos hw]
 refine .inl ?_
 unfold Oper.wp execOp
 simp only [ho,hx,hy,Sem.run_bind,hg,hr,Result.andThen_ok,Sem.run_pure]
 exact h
end Go.Proofs.YtajehiidpecknaaGreatDoor.Wi
namespace Go.Proofs.YtajehiidpecknaaGreatDoor.Wi
open Go Go.RowKit
set_option maxRecDepth 100000
def E1 (o:Option (List Int)):Bool:=o.isSome
def ri80f (ek:Int) (C:List Int) (N:Nat):Nat→Value
 | 0 => .int .i64 ek
 | 1 => .bool false
 | 2 => .bool false
 | 3=>undef
 | 4=>undef
 | 5=>undef
 | 6 => .bool false
 | _=>undef
def Hm (ek:Int) (C:List Int) (N:Nat):Nat→Value
 | 0 => .int .i64 0
 | 1 => .bool true
 | 2 => .bool true
 | 3 => .agg (bv C).toArray
 | 4 => .agg (bv (bi 1)).toArray
 | 5 => .bool (!decide (C=bi 1))
 | 6 => .bool (!decide (C=bi 1))
 | _=>undef
def Nr (e8 e7:Nat):Nat→Option Value
 | 0=>some (.slice (some ⟨e8,0,none⟩) 32 32)
 | 1=>some (.slice (some ⟨e7,0,none⟩) 32 64)
 | _=>none
set_option maxHeartbeats 4000000 in
theorem yU (x p:List Int) (hx:L32 x) (hp:Byt p) (hl:p.length≤140737488353000) (v:Value) (w:World) (hv:Sl w v p) :
  Calls Tryz.prog 29 #[.agg (bv x).toArray,v] w fun e w'=>e = .returned (.tuple #[.agg (bv (nF (inq x p))).toArray,.bool (E1 (inq x p))])∧Below w.heap.size w w':=by
 have HX:Hid (L32 x):=hx
 have HP:Hid (Byt p):=hp
 have HPL:Hid (p.length≤140737488353000):=hl
 have hz:=bQ
 obtain ⟨Z,hZ⟩ : ∃ Z,(bv (List.replicate 32 0)).toArray=Z:=⟨_,rfl⟩
 have hZs:Z.size=32:=by rw [←hZ];simp [bv]
 have HZS:Hid (Z.size=32):=hZs
 rw [hZ] at hz
 have hz6:=fu
 obtain ⟨Z6,hZ6⟩ : ∃ Z,(bv (List.replicate 64 0)).toArray=Z:=⟨_,rfl⟩
 have hZs6:Z6.size=64:=by rw [←hZ6];simp [bv]
 have HZ6:Hid (Z6.size=64):=hZs6
 rw [hZ6] at hz6
 have HVW:Hid (Sl w v p):=hv
 obtain ⟨R,hR⟩ : ∃ R,inq x p=R:=⟨_,rfl⟩
 have HR:Hid (inp x p 256=R):=hR
 rw [hR]
 have hzr:=bQ
 obtain ⟨ZR,hZR⟩ : ∃ Z,(bv (List.replicate 32 0)).toArray=Z:=⟨_,rfl⟩
 have hZRs:ZR.size=32:=by rw [←hZR];simp [bv]
 have HZR:Hid (ZR.size=32):=hZRs
 have HZRE:Hid ((bv (List.replicate 32 0)).toArray=ZR):=hZR
 clear hzr
 obtain rfl:ZR=Z:=hZR.symm.trans hZ
 obtain ⟨A0,hA0⟩ : ∃ A,(bv x).toArray=A:=⟨_,rfl⟩
 rw [hA0]
 obtain ⟨U,hU⟩ : ∃ U,((w.alloc (.cells A0 22)).alloc (.cells ZR 22))=U:=⟨_,rfl⟩
 have sU:U.heap.size=w.heap.size+2:=by rw [←hU];simp
 have bU:Below w.heap.size w U:=by rw [←hU];exact (((Below.refl _ w).alloc (by first | exact Nat.le_refl _ | (simp only [World.size_alloc];omega)) _).alloc (by first | exact Nat.le_refl _ | (simp only [World.size_alloc];omega)) _)
 have r0:U.rangeAt (w.heap.size) 0 (bv x):=fun j v hj=>by rw [Nat.zero_add,cell_of_row U _ j _ _ _ (show U.heap[w.heap.size]? = some (.cells A0 22 (0,0)) by rw [←hU];exact bg [.cells A0 22 (0,0),.cells ZR 22 (0,0)] w.heap 0 _ rfl),←hA0,List.getElem?_toArray];exact hj
 have thr:U.there (w.heap.size+1) 0 32:=aN (show U.heap[w.heap.size+1]? = some (.cells ZR 22 (0,0)) by rw [←hU];exact bg [.cells A0 22 (0,0),.cells ZR 22 (0,0)] w.heap 1 _ rfl) 0 32 (by omega)
 have BU:Hid (Below w.heap.size w U):=bU
 obtain ⟨D,hD⟩ : ∃ D,w.heap.size=D:=⟨_,rfl⟩
 have HD:Hid (w.heap.size=D):=hD
 rw [hD] at sU thr r0
 have SU:Hid (U.heap.size=D+2):=sU
 have THR:Hid (U.there (D+1) 0 32):=thr
 have LTR:Hid (D+1<U.heap.size):=by show _<_;omega
 have RX:Hid (U.rangeAt (D) 0 (bv x)):=r0
 have LX:Hid (D<U.heap.size):=by show _<_;omega
 clear sU bU thr hZR hZRs r0 hA0
 have HVU:Hid (Sl U v p):=hv.below BU.out (Nat.le_refl _)
 have HLN:Hid (∀ c,(joA (tx x p c)).length=36+p.length):=fun c=>Dj hx c
 obtain ⟨a0,c0,hv0,-,-⟩:=id HVU.out
 obtain ⟨n0,hn0⟩ : ∃ n,p.length=n:=⟨_,rfl⟩
 have HNP:Hid (p.length=n0):=hn0
 rw [hn0] at hv0
 subst hv0
 clear hx hp hv hl hZs hn0 hR hZ6 hZs6
 try clear hZ
 go_enter Tryz.func29,Tryz.ntmps29
 go_upto_region 1 with (fail)
 try rw [hU]
 try rw [hD]
 clear hU hD
 go_wp2_with fail
 go_loopw [11] (fun i wr => ∃ k:Nat,k≤256∧i = .int .i64 (k:Int)∧Below U.heap.size U wr ∧ ∃ n,k+n=256∧inp x p n=R) (fun i _=>256 - (intOf i).toNat)
 case atStart=>exact ⟨0,by omega,rfl,Below.refl _ _,256,rfl,HR.out⟩
 case round =>
  obtain ⟨k,hk,rfl,hb,n,hn,hi⟩:=hrel
  have HNK:Hid (k+n=256):=hn
  have HB:Hid (Below U.heap.size U wr):=hb
  have HI:Hid (inp x p n=R):=hi
  clear hb hi hn HR
  by_cases hlt:k<256
  ·obtain ⟨J,hJ⟩ : ∃ J,joA (tx x p (k:Int))=J:=⟨_,rfl⟩
   have HJE:Hid (joA (tx x p (k:Int))=J):=hJ
   have HJB:Hid (Byt J):=by rw [←hJ];exact ir (Ds HX.out HP.out _ (by omega) (by omega)) _
   have HJL:Hid (J.length≤140737488354000):=by rw [←hJ,HLN.out];have:=HPL.out;show _≤_;omega
   obtain ⟨G,hG⟩ : ∃ G,h5 J=G:=⟨_,rfl⟩
   have HGH:Hid (h5 J=G):=hG
   have HGL:Hid (G.length=64∧Byt G):=by rw [←hG];exact ⟨bo _,dI _⟩
   obtain ⟨b,hbt⟩ : ∃ b,G.take 32=b:=⟨_,rfl⟩
   have htb:tb x p (k:Int)=b:=by unfold tb;rw [hJ,hG,hbt]
   have HBT:Hid (G.take 32=b):=hbt
   have HBL:Hid (L32 b):=by rw [←htb];exact L32.tb _ _ _
   obtain ⟨ek,hek⟩ : ∃ z,rk b=z:=⟨_,rfl⟩
   obtain ⟨C,hC⟩ : ∃ z,Cl b=z:=⟨_,rfl⟩
   have HCL:Hid (∀ W,Calls Tryz.prog 38 #[.agg (bv b).toArray] W fun e w'=>e = .returned (.tuple #[.agg (bv C).toArray,.int .i64 ek])∧Below W.heap.size W w'):=fun W=>by rw [←hek,←hC];exact qc HBL.out W
   have HC:Hid (L32 C):=by rw [←hC];exact L32.cl _
   have HTG:Hid (∀ m,k+(m+1)=256→inp x p (m+1)=if (ek=0 ∧ ¬ C=bi 1) then some C else inp x p m):=fun m hm=>by
    rw [nH x p hm,tg,htb,hek,hC]
    by_cases q:ek=0 ∧ ¬ C=bi 1
    ·rw [if_pos q,if_pos (decide_eq_true q)]
    ·rw [if_neg q,if_neg (by rw [decide_eq_false q];decide)]
   have HN4:Hid ((tx x p (k:Int)).length≤1000):=by show 4≤1000;omega
   have S3:Hid (Sl wr (.slice (some ⟨D,0,none⟩) 32 32) x):=(bk HX.out RX.out LX.out).below HB.out (Nat.le_refl _)
   obtain ⟨U1,hU1⟩ : ∃ W,wr.alloc (.cells #[.int .u8 3,.int .u8 1] 5)=W:=⟨_,rfl⟩
   have bu1:Below wr.heap.size wr U1:=by rw [←hU1];exact (Below.refl _ wr).alloc (Nat.le_refl _) _
   have sl1:Sl U1 (.slice (some ⟨wr.heap.size,0,none⟩) 2 2) [3,1]:=by rw [←hU1];exact eD wr [3,1] _ 2 rfl
   obtain ⟨U2,hU2⟩ : ∃ W,U1.alloc (.cells #[.int .u8 (k:Int),.int .u8 0] 5)=W:=⟨_,rfl⟩
   have bu2:Below U1.heap.size U1 U2:=by rw [←hU2];exact (Below.refl _ U1).alloc (Nat.le_refl _) _
   have sl2:Sl U2 (.slice (some ⟨U1.heap.size,0,none⟩) 2 2) [(k:Int),0]:=by rw [←hU2];exact eD U1 [(k:Int),0] _ 2 rfl
   have BU2:Hid (Below wr.heap.size wr U2):=Below.tr' bu1 bu2
   obtain ⟨f1,hf1⟩ : ∃ n,wr.heap.size=n:=⟨_,rfl⟩
   obtain ⟨f2,hf2⟩ : ∃ n,U1.heap.size=n:=⟨_,rfl⟩
   have HLL:Hid (LL (U2.alloc (.cells #[.slice (some ⟨f1,0,none⟩) 2 2,.slice (some ⟨D,0,none⟩) 32 32,.slice a0 n0 c0,.slice (some ⟨f2,0,none⟩) 2 2] 23)) (.slice (some ⟨U2.heap.size,0,none⟩) 4 4) (tx x p (k:Int))):=by
    refine k9 [.slice (some ⟨f1,0,none⟩) 2 2,.slice (some ⟨D,0,none⟩) 32 32,.slice a0 n0 c0,.slice (some ⟨f2,0,none⟩) 2 2] _ _ 4 rfl rfl (fun i u hu => ?_)
    match i,hu with
    | 0,hu=>cases hu;rw [←hf1];exact sl1.below bu2 (Nat.le_refl _)
    | 1,hu=>cases hu;exact S3.out.below BU2.out (Nat.le_refl _)
    | 2,hu=>cases hu;exact HVU.out.below (Below.tr' HB.out BU2.out) (Nat.le_refl _)
    | 3,hu=>cases hu;rw [←hf2];exact sl2
    | n+4,hu=>simp at hu
   have BLL:Hid (Below wr.heap.size wr (U2.alloc (.cells #[.slice (some ⟨f1,0,none⟩) 2 2,.slice (some ⟨D,0,none⟩) 32 32,.slice a0 n0 c0,.slice (some ⟨f2,0,none⟩) 2 2] 23))):=BU2.out.alloc BU2.out.size _
   clear sl1 sl2 bu1 bu2 hJ hG hbt htb hek hC
   go_upto_region 5 with (first
    | (go_at_call 41;refine (iT (tx x p (k:Int)) J HJE.out _ _ HLL.out (Nat.le_trans HJL.out (by decide)) HN4.out).mono ?_;rintro e W1 ⟨v1,rfl,g1,g2⟩;have B1:Hid (Below U.heap.size U W1):=Below.tr' HB.out (Below.tr' BLL.out g2);have S1:Hid (Sq W1 v1 J):=g1.sq;clear g1 g2)
    | (go_at_call 40;refine (eW J G _ HGH.out HJL.out W1 HJB.out S1.out).mono ?_;rintro e W2 ⟨rfl,g1⟩;have B2:Hid (Below U.heap.size U W2):=Below.tr' B1.out g1;clear g1)
    | (refine wpList_store_mid rfl 29 (.tmp 7) (.tmp 22) rfl W2.heap.size 0 (bv G).toArray rfl rfl (bZ W2 (HGL.out.1) HZ6.out) (aL (HGL.out.1) cj) (aE _) ?_;simp only [List.toList_toArray]))
   obtain ⟨e7,he7⟩ : ∃ n,W2.heap.size=n:=⟨_,rfl⟩
   obtain ⟨W4,hW4⟩ : ∃ W,(W2.alloc (.cells Z6 29)).setCells W2.heap.size 0 (bv G)=W:=⟨_,rfl⟩
   obtain ⟨l1,l2,l3⟩:=a8 (by rw [aa,HGL.out.1,HZ6.out]) (by rw [aa,HGL.out.1];omega) hW4
   have BW4:Hid (Below W2.heap.size W2 W4):=l2
   have R7:Hid (W4.rangeAt e7 0 (bv G)):=by rw [←he7];exact l1
   have L7:Hid (e7<W4.heap.size):=by rw [←he7];exact l3
   try rw [hW4]
   try rw [he7]
   clear l1 l2 l3 hW4 he7
   have BU4:Hid (Below U.heap.size U W4):=Below.tr' B2.out BW4.out
   clear HLL BLL S3 B1 S1 B2 BW4
   try clear hU1 hU2 hf1 hf2 BU2
   go_upto_region 6 with (fail)
   obtain ⟨e8,he8⟩ : ∃ n,W4.heap.size=n:=⟨_,rfl⟩
   obtain ⟨W6,hW6⟩ : ∃ W,W4.alloc (.cells ZR 22)=W:=⟨_,rfl⟩
   have BW6:Hid (Below W4.heap.size W4 W6):=by rw [←hW6];exact (Below.refl _ W4).alloc (Nat.le_refl _) _
   have TH8:Hid (W6.there e8 0 32):=by rw [←hW6,←he8];exact dH W4 HZS.out.symm
   have L8:Hid (e8<W6.heap.size):=by show _<_;rw [←hW6,←he8];simp
   have R7b:Hid (W6.rangeAt e7 0 (bv b)):=ae (by have:=dL (n:=32) R7.out;rw [HBT.out] at this;exact this) BW6.out L7.out
   have L7b:Hid (e7<W6.heap.size):=Nat.lt_of_lt_of_le L7.out BW6.out.size
   have G8:Hid (U.heap.size≤e8):=by show _≤_;rw [←he8];exact BU4.out.size
   have BU6:Hid (Below U.heap.size U W6):=Below.tr' BU4.out BW6.out
   try rw [hW6]
   try rw [he8]
   clear hW6 he8 R7 L7 BU4 BW6
   refine RG.wp_rgn' (GL W6 (Nr e8 e7) (fun _ _ _=>True) [] 2 (e8) (0) (bv b)) (by kernel_rfl) (by kernel_rfl) GL.start ?_ ?_
   ·refine ⟨?_,?_,?_,trivial⟩
    ·refine GL.ob rfl ?_
     intro a W d V hI hd hpx hbk hf hp
     refine RU.ob_val (v := .slice (some ⟨e8,0,none⟩) 32 32) rfl (RU.wanted_none rfl) (fun ev he hc => ?_) ⟨_,rfl,hI.step (fun _ _ _ _ _ _=>trivial) (Below.refl _ _) 0 _ (by simp) (fun u hu=>by first | (cases hu;rfl) | cases hu) trivial⟩
     have q8:ev (.tmp 8) = .pointer (some ⟨e8,0,none⟩):=(he (.tmp 8)).trans (hf 8 rfl)
     simp only [qF,qD,qE,execOp,Option.map_some,Option.map_none];rw [q8]
     try simp only [hc]
     first | (go_simp;done) | (go_simp;rfl) | rfl
    ·refine GL.ob rfl ?_
     intro a W d V hI hd hpx hbk hf hp
     refine RU.ob_val (v := .slice (some ⟨e7,0,none⟩) 32 64) rfl (RU.wanted_none rfl) (fun ev he hc => ?_) ⟨_,rfl,hI.step (fun _ _ _ _ _ _=>trivial) (Below.refl _ _) 1 _ (by simp) (fun u hu=>by first | (cases hu;rfl) | cases hu) trivial⟩
     have q7:ev (.tmp 7) = .pointer (some ⟨e7,0,none⟩):=(he (.tmp 7)).trans (hf 7 rfl)
     simp only [qF,qD,qE,execOp,Option.map_some,Option.map_none];rw [q7]
     try simp only [hc]
     first | (go_simp;done) | (go_simp;rfl) | rfl
    ·refine GL.obs (fun a W d V hI hd hpx hbk hf hp => ?_)
     have hO':Below W6.heap.size W6 W:=hI.be
     have q1:a.eval (.tmp 23) = .slice (some ⟨e8,0,none⟩) 32 32:=(hp 0 23 rfl).trans (hI.kn 0 _ rfl (hpx 0 rfl))
     have q2:a.eval (.tmp 24) = .slice (some ⟨e7,0,none⟩) 32 64:=(hp 1 24 rfl).trans (hI.kn 1 _ rfl (hpx 1 rfl))
     have hth:W.there (e8) (0) (bv b).length:=by rw [aa,HBL.out.len];exact aB TH8.out hO' L8.out
     have hrun:=run_copy_cells (P:=Tryz.prog) W 23 23 3 5 (e8) (0) 32 32 ⟨e7,0,none⟩ 32 64 (bv b) Tryz.underlying23 dX (by rw [aa,HBL.out.len];rfl) (fun j u hu=>by rw [dM];exact (ae R7b.out hO' L7b.out) j u hu) (fun j hj=>(hth j hj).1) (fun j hj=>(hth j hj).2) (gR _)
     refine RU.ob_run (v:=goInt (bv b).length) (w':=W.setCells (e8) (0) (bv b)) rfl (RU.wanted_none rfl) (fun ev he hc => ?_) ⟨_,rfl,GL.stored hI rfl _⟩
     have e1:=(he (.tmp 23)).trans q1
     have e2:=(he (.tmp 24)).trans q2
     simp only [qF,qD,qE,execOp,resolve,invoke,builtin,Sem.run_bind,Sem.run_pure,Result.andThen_ok,List.map_toArray,List.map_cons,List.map_nil,e1,e2,hrun]
   intro W7x dW7 VW7 hal hG
   obtain ⟨hK,W7,W7y,hyW7⟩:=hG.fin (hal 2 (by decide))
   subst hyW7
   have BW7:Hid (Below W6.heap.size W6 W7):=W7y
   have hs0:VW7 0 = .slice (some ⟨e8,0,none⟩) 32 32:=hK 0 _ rfl (hal 0 (by decide))
   have hs1:VW7 1 = .slice (some ⟨e7,0,none⟩) 32 64:=hK 1 _ rfl (hal 1 (by decide))
   obtain ⟨u2W7,hs2⟩ : ∃ u,VW7 2=u:=⟨_,rfl⟩
   simp only [RU.lay,Act.put,hs0,hs1,hs2]
   simp only [qA,qB,qC]
   clear hG hK hal W7y hs0 hs1 hs2
   obtain ⟨W8,hW8⟩ : ∃ Y,W7.setCells e8 0 (bv b)=Y:=⟨_,rfl⟩
   have s8:W8.heap.size=W7.heap.size:=by rw [←hW8];exact bM _ _ _ _
   have R8:Hid (W8.rangeAt e8 0 (bv b)):=by rw [←hW8];exact World.rangeAt_setCells_same _ _ _ _ (by rw [aa,HBL.out.len];exact aB TH8.out BW7.out L8.out)
   have L8b:Hid (e8<W8.heap.size):=by show _<_;rw [s8];exact Nat.lt_of_lt_of_le L8.out BW7.out.size
   have BU8:Hid (Below U.heap.size U W8):=by rw [←hW8];exact af G8.out _ _ (Below.tr' BU6.out BW7.out)
   rw [hW8]
   clear hW8 s8 BU6 BW7 R7b L7b TH8 L8
   go_upto_region 8 with (first
    | (refine wpList_load_mid rfl 22 (.tmp 8) rfl (e8) 0 rfl (bv b) _ R8.out Tryz.underlying22 rfl (by rw [aa,HBL.out.len];exact aJ) ?_)
    | (go_at_call 38;refine (HCL.out W8).mono ?_;rintro e W9 ⟨rfl,g1⟩;have BW9:Hid (Below W8.heap.size W8 W9):=g1;clear g1)
    | (refine wpList_store_mid rfl 22 (.tmp 9) (.tmp 29) rfl W9.heap.size 0 (bv C).toArray rfl rfl (bZ W9 (HC.out.len) HZS.out) (aL (HC.out.len) aJ) (aE _) ?_;simp only [List.toList_toArray]))
   obtain ⟨N,hN⟩ : ∃ n,W9.heap.size=n:=⟨_,rfl⟩
   obtain ⟨w3,hw3⟩ : ∃ W,(W9.alloc (.cells ZR 22)).setCells W9.heap.size 0 (bv C)=W:=⟨_,rfl⟩
   obtain ⟨l1,l2,l3⟩:=a8 (by rw [aa,HC.out.len,HZS.out]) (by rw [aa,HC.out.len];omega) hw3
   have Bw3:Hid (Below W9.heap.size W9 w3):=l2
   have R9:Hid (w3.rangeAt N 0 (bv C)):=by rw [←hN];exact l1
   have L9:Hid (N<w3.heap.size):=by rw [←hN];exact l3
   try rw [hw3]
   try rw [hN]
   clear l1 l2 l3 hw3 hN
   have BU3:Hid (Below U.heap.size U w3):=Below.tr' (Below.tr' BU8.out BW9.out) Bw3.out
   clear R8 L8b BW9 Bw3 BU8
   by_cases h0:ek=0
   ·subst h0
    refine RU.wp_rgn' [] (Hm 0 C N) (fun _=>0) (gΩ w3) (by kernel_rfl) (by kernel_rfl) (show Below w3.heap.size w3 _ from (Below.refl _ _).drew) ?_ ?_
    ·refine ⟨?_,?_,?_,?_,?_,?_,?_,trivial⟩
     ·refine RU.ObT.pure rfl rfl rfl (fun a V hf hp ev he hc W => ?_)
      have q10:ev (.tmp 10) = .int .i64 0:=(he (.tmp 10)).trans (hf 10 rfl)
      simp only [qF,qD,qE,execOp,Option.map_some,Option.map_none];rw [q10]
      first | (go_simp;done) | (go_simp;rfl) | rfl
     ·refine RU.ObT.pure rfl rfl rfl (fun a V hf hp ev he hc W => ?_)
      have q31:ev (.tmp 31) = .int .i64 0:=(he (.tmp 31)).trans (hp 0 31 rfl)
      simp only [qF,qD,qE,execOp,Option.map_some,Option.map_none];rw [q31]
      try simp only [hc]
      first | (go_simp;done) | (go_simp;rfl) | rfl
     ·refine RU.ObT.pure rfl rfl rfl (fun a V hf hp ev he hc W => ?_)
      have q32:ev (.tmp 32) = .bool true:=(he (.tmp 32)).trans (hp 1 32 rfl)
      simp only [qF,qD,qE,execOp,Option.map_some,Option.map_none];rw [q32]
      first | (go_simp;done) | (go_simp;rfl) | rfl
     ·refine RU.ObT.silent rfl (fun a W k0 V hO hf hp hk => ?_)
      have hg:a.eval (.tmp 33) = .bool true:=hp 2 33 rfl
      have hO':Below w3.heap.size w3 W:=hO
      have q9:a.eval (.tmp 9) = .pointer (some ⟨N,0,none⟩):=hf 9 rfl
      exact RU.ob_op rfl (RU.wanted_some rfl rfl rfl hg) (wp_load_mid 22 (.tmp 9) rfl (N) (0) q9 (bv C) _ (ae R9.out hO' L9.out) Tryz.underlying22 rfl (aV HC.out) ⟨rfl,hO⟩)
     ·refine RU.ObT.silent rfl (fun a W k0 V hO hf hp hk => ?_)
      have hg:a.eval (.tmp 33) = .bool true:=hp 2 33 rfl
      have hO':Below w3.heap.size w3 W:=hO
      refine RU.ob_call (g:=65) (args := #[]) rfl (RU.wanted_some rfl rfl rfl hg) (fun ev he hc => ?_) ((DM W).mono ?_)
      ·have hfn:=he (.func 65)
       simp only [qF,qD,qE,execOp,Option.map_some,Option.map_none]
       simp only [resolve,invoke,Sem.run_bind,Sem.run_pure,Result.andThen_ok,List.map_toArray,List.map_cons,List.map_nil,hfn,Act.eval,hc]
       rfl
      ·rintro e' W2 ⟨rfl,hb2⟩
       exact ⟨_,rfl,rfl,(hO'.trans (hb2.mono hO'.size):Below w3.heap.size w3 W2)⟩
     ·refine RU.ObT.silent rfl (fun a W k0 V hO hf hp hk => ?_)
      have hg:a.eval (.tmp 33) = .bool true:=hp 2 33 rfl
      refine RU.ob_val rfl (RU.wanted_some rfl rfl rfl hg) (fun ev he hc => ?_) ⟨rfl,hO⟩
      have q34:ev (.tmp 34) = .agg (bv C).toArray:=(he (.tmp 34)).trans (hp 3 34 rfl)
      have q35:ev (.tmp 35) = .agg (bv (bi 1)).toArray:=(he (.tmp 35)).trans (hp 4 35 rfl)
      simp only [qF,qD,qE,execOp,Option.map_some,Option.map_none];rw [q34,q35]
      simp only [Sem.run_bind,CG,AW HC.out L32.one,Result.andThen_ok,Sem.run_pure];rfl
     ·refine RU.ObT.pure rfl rfl rfl (fun a V hf hp ev he hc W => ?_)
      have q33:ev (.tmp 33) = .bool true:=(he (.tmp 33)).trans (hp 2 33 rfl)
      have q36:ev (.tmp 36) = .bool (!decide (C=bi 1)):=(he (.tmp 36)).trans (hp 5 36 rfl)
      simp only [qF,qD,qE,execOp,Option.map_some,Option.map_none];rw [q33,q36]
      try simp only [hc]
      first | (go_simp;done) | (go_simp;rfl) | rfl
    intro w4 Vw4 hOw4
    have Bw4:Hid (Below w3.heap.size w3 w4):=hOw4
    clear hOw4
    simp only [RU.lay,RU.val,RU.at',Hm,Act.put]
    simp only [qA,qB,qC]
    have BU5:Hid (Below U.heap.size U w4):=Below.tr' BU3.out Bw4.out
    have hn0:=HNK.out
    obtain ⟨m,rfl⟩ : ∃ m,n=m+1:=⟨n - 1,by omega⟩
    have hI:=HI.out
    by_cases hq:C=bi 1
    ·rw [decide_eq_true hq]
     rw [HTG.out m hn0,if_neg (fun h=>h.2 hq)] at hI
     have HI2:Hid (inp x p m=R):=hI
     have HN3:Hid (k+1+m=256):=by show _=_;omega
     clear hq hn0 hI HI HTG HNK
     go_wp2_with fail
     exact ⟨⟨k+1,by omega,by go_num,BU5.out,m,HN3.out,HI2.out⟩,by simp [intOf];omega⟩
    ·rw [decide_eq_false hq]
     rw [HTG.out m hn0,if_pos ⟨rfl,hq⟩] at hI
     have HI2:Hid (R=some C):=hI.symm
     have R9d:Hid (w4.rangeAt N 0 (bv C)):=ae R9.out Bw4.out L9.out
     have THd:=aB THR.out BU5.out LTR.out
     clear hq hn0 hI HI HTG HNK
     go_wp2_with (first
      | (refine wpList_load_mid rfl 22 (.tmp 9) rfl (N) 0 rfl (bv C) _ R9d.out Tryz.underlying22 rfl (by rw [aa,HC.out.len];exact aJ) ?_)
      | (refine wpList_store_mid rfl 22 (.tmp 4) (.tmp 38) rfl (D+1) 0 (bv C).toArray rfl rfl (aX (HC.out.len) (THd)) (aL (HC.out.len) aJ) (aE _) ?_;simp only [List.toList_toArray]))
     have qq:(w4.setCells (D+1) 0 (bv C)).rangeAt (D+1) 0 (bv C):=World.rangeAt_setCells_same _ _ _ _ (by rw [aa,HC.out.len];exact THd)
     have hbl:Below w.heap.size w (w4.setCells (D+1) 0 (bv C)):=af (by rw [HD.out];omega) _ _ (BU.out.trans (BU5.out.mono BU.out.size))
     try simp only [Exit.inBlock,Exit.then]
     refine bodyPost_ret (v := .tuple #[.agg (bv C).toArray,.bool true]) ?_ rfl ⟨by rw [HI2.out];rfl,hbl⟩
     exact aG Tryz.results29 _ _ (D+1) 0 (bv C) _ _ rfl rfl qq Tryz.underlying22 rfl (by rw [aa,HC.out.len];exact aJ)
   ·refine RU.wp_rgn' [] (ri80f ek C N) (fun _=>0) (gΩ w3) (by kernel_rfl) (by kernel_rfl) (show Below w3.heap.size w3 _ from (Below.refl _ _).drew) ?_ ?_
    ·refine ⟨?_,?_,?_,?_,?_,?_,?_,trivial⟩
     ·refine RU.ObT.pure rfl rfl rfl (fun a V hf hp ev he hc W => ?_)
      have q10:ev (.tmp 10) = .int .i64 ek:=(he (.tmp 10)).trans (hf 10 rfl)
      simp only [qF,qD,qE,execOp,Option.map_some,Option.map_none];rw [q10]
      first | (go_simp;done) | (go_simp;rfl) | rfl
     ·refine RU.ObT.pure rfl rfl rfl (fun a V hf hp ev he hc W => ?_)
      have q31:ev (.tmp 31) = .int .i64 ek:=(he (.tmp 31)).trans (hp 0 31 rfl)
      simp only [qF,qD,qE,execOp,Option.map_some,Option.map_none];rw [q31]
      try simp only [hc]
      go_simp;rw [show (ek == 0)=false from beq_eq_false_iff_ne.2 h0];rfl
     ·refine RU.ObT.pure rfl rfl rfl (fun a V hf hp ev he hc W => ?_)
      have q32:ev (.tmp 32) = .bool false:=(he (.tmp 32)).trans (hp 1 32 rfl)
      simp only [qF,qD,qE,execOp,Option.map_some,Option.map_none];rw [q32]
      first | (go_simp;done) | (go_simp;rfl) | rfl
     ·exact RU.ObT.skip (g:=2) (d:=33) rfl rfl rfl rfl rfl rfl (fun U h=>by cases h) rfl
     ·exact RU.ObT.skip (g:=2) (d:=33) rfl rfl rfl rfl rfl rfl (fun U h=>by cases h) rfl
     ·exact RU.ObT.skip (g:=2) (d:=33) rfl rfl rfl rfl rfl rfl (fun U h=>by cases h) rfl
     ·refine RU.ObT.pure rfl rfl rfl (fun a V hf hp ev he hc W => ?_)
      have q33:ev (.tmp 33) = .bool false:=(he (.tmp 33)).trans (hp 2 33 rfl)
      have q36:ev (.tmp 36)=undef:=(he (.tmp 36)).trans (hp 5 36 rfl)
      simp only [qF,qD,qE,execOp,Option.map_some,Option.map_none];rw [q33,q36]
      try simp only [hc]
      first | (go_simp;done) | (go_simp;rfl) | rfl
    intro w4 Vw4 hOw4
    have Bw4:Hid (Below w3.heap.size w3 w4):=hOw4
    clear hOw4
    simp only [RU.lay,RU.val,RU.at',ri80f,Act.put]
    simp only [qA,qB,qC]
    have BU5:Hid (Below U.heap.size U w4):=Below.tr' BU3.out Bw4.out
    have hn0:=HNK.out
    obtain ⟨m,rfl⟩ : ∃ m,n=m+1:=⟨n - 1,by omega⟩
    have hI:=HI.out
    rw [HTG.out m hn0,if_neg (fun h=>h0 h.1)] at hI
    have HI2:Hid (inp x p m=R):=hI
    have HN3:Hid (k+1+m=256):=by show _=_;omega
    clear h0 hn0 hI HI HTG HNK
    go_wp2_with fail
    exact ⟨⟨k+1,by omega,by go_num,BU5.out,m,HN3.out,HI2.out⟩,by simp [intOf];omega⟩
  ·obtain rfl:k=256:=by omega
   have HI2:Hid (R=none):=by
    have h1:=HNK.out
    obtain rfl:n=0:=by omega
    exact HI.out.symm
   have HBZ:Hid (∀ W:World,(Instr.build 22 #[]).run Tryz.prog W = .ok (.agg (bv z32).toArray) W):=tH
   have THd:=aB THR.out HB.out LTR.out
   obtain ⟨E0,hE0⟩ : ∃ z,z32=z:=⟨_,rfl⟩
   have HE:Hid (L32 E0):=by rw [←hE0];exact fl
   have HEE:Hid (z32=E0):=hE0
   rw [hE0] at HBZ
   clear HI HNK hlt hk hE0
   go_wp2_with (first
    | (refine dp 22 rfl rfl _ (HBZ.out _) ?_)
    | (refine wpList_store_mid rfl 22 (.tmp 4) (.tmp 40) rfl (D+1) 0 (bv E0).toArray rfl rfl (aX (HE.out.len) (THd)) (aL (HE.out.len) aJ) (aE _) ?_;simp only [List.toList_toArray]))
   have qq:(wr.setCells (D+1) 0 (bv E0)).rangeAt (D+1) 0 (bv E0):=World.rangeAt_setCells_same _ _ _ _ (by rw [aa,HE.out.len];exact THd)
   have hbl:Below w.heap.size w (wr.setCells (D+1) 0 (bv E0)):=af (by rw [HD.out];omega) _ _ (BU.out.trans (HB.out.mono BU.out.size))
   try simp only [Exit.inBlock,Exit.then]
   refine bodyPost_ret (v := .tuple #[.agg (bv E0).toArray,.bool false]) ?_ rfl ⟨by rw [HI2.out,←HEE.out];rfl,hbl⟩
   exact aG Tryz.results29 _ _ (D+1) 0 (bv E0) _ _ rfl rfl qq Tryz.underlying22 rfl (by rw [aa,HE.out.len];exact aJ)
end Go.Proofs.YtajehiidpecknaaGreatDoor.Wi
