/- Public and awake of the program; the key of the seed of noughts, reckoned. -/
import Derived.Test.YtkhjnjlinfbfoaaGreatDoorVhA
import Derived.Test.YtkhjnjlinfbfoaaGreatDoorRows
import Derived.OpenShut
import Derived.ChangeOld
import Derived.ProofKit
import Derived.Deep.DeepHandedRow
import Derived.Lib.LaidTab
set_option linter.unusedSimpArgs false
set_option linter.unusedVariables false
namespace Go.Proofs.YtkhjnjlinfbfoaaGreatDoor.Wi
open Go Go.RowKit Sh.Q5
set_option maxRecDepth 100000
def s0_w0:List Nat:=[0,0,0,0,9223372036854775808,0,0,0,0,0,0,0,0,0,0,256,0,9007199254743044,0,4719772426664165376,9223372036854775808,361985685131002114,144132780261900548,8648063572759674900,1173187702963572776,126768607751657609,13944307785744826688,2667488058145767452,2023559755096263684,3076264096972779889,1827872124046622896,8310353164642315215,12136906272933825081,15545001212044488457,14814700502097700868,12285100419639919475,9670082501097730335,5518604699939968887,9476093506087548489,9796596215299450625,5958344982377384288,12265343076877762427,12165219924428479518,1325243823695169124,11281310535319608749,1034882804047488912,1535714187706151253,649279741799497956,17459309777971477598,5500650830056389434,16562679484493522125,13945535446963880796,15567785657537865457,14580602548817413697,8635629319549429025,14777824508854947588,16911204817919595455,13700561142527922852,2574132088199195008,10308614111758391576,10852703017310842740,16082347588028971208,2184371991873687222,12033888635545163341,10419660119830469926,8585216435925201857,14386434745505789993,7139669067458878980,16562904965169700491,18303181280394127650,7589255923654424011,10370349966052406001,9383377643078173111,7113417478183963821,9287236787583809989,7025827219752386637,2720506219950445715,11463598587821378836,11074598858778813994,3215546073741905920]
def s0_a0:List Nat:=[11912009170470909681,4354685564936845355,13503953896175478587,7640891576956012808,10758372976291012085,11115036946241619673,4126266364255868068,5343641584730768695,11168902456601489605,1302396440103629798,15200776334310210592,17208046804368280137,8492703388701907715,7755397839558790253,7030135620985194732,2312015059832132880,16523165081541911161,5830777752747395166,10783373218667509365,4479050482935558316,11702245667014225582,3280029084718757303,7259474283948259824,12603740802078081619,1537361645710774433,2396587261501461511,15578081726648313859,5464896530425090686,8079588423635971269,8590249264134269809,7463697391145966002,3706265178671430226,3525803993081217942,7047087411074569085,5664254687711525247,14726941729103868001,7020929409684525903,8461667706126069220,379464524265310633,15549802313875602274,17263284987263657958,14638953785217629854,18014955160550453689,6109844019387451280,3934753730757518807,11221941365251729549,12170060852399267806,15552401992348485791,7917789096369028140,5980717885382567603,2164993625293247554,6484337866056519823,4514939707137230467,15645523297110002428,16447334635902428014,17023595609519142724,6401030026082633268,14333128423172872232,2340657871528695503,17181778841757954467,8316550594923792609,16525350475053332148,16732118037317178048,10477334923476079977,1675981542843284747,18002758202473554379,18349958183428923895,14263519478537648808,2518871767924734864,10167427158072057591,6453938761489340098,15156157019208777747,17406653508796741912,1570791217848826313,14488324544568235627,13060178779355539256,18328841029446720343,18170168180967726918,3931110873737423470,5567541349902180190,5776266022435338917,2037463206167937637,13818184367001344771,16590354316283047806]
def s0_e0:List Nat:=[6620516959819538809,2270897969802886507,11170449401992604703,5840696475078001361,17827673622936100753,9932265545342369336,4897852136903073097,16523341605267860574,627079433320757529,14806635048689895951,15174314027989733557,9272832003298536862,16034440948875958624,13502761422932650927,2096611521171684090,13672406949288936619,16941445236327295330,18281535139762694881,2421145553396808227,851941326718768001,17300981003431507799,16714166088777974375,7521305024183279694,2439087024015677111,3061020130476478910,18327999007697665139,5182447908206143290,4489227580986569443,963291311694375013,8078194955157153449,10553505094661485635,10628536666645987242,13287781554297122783,13566656608276548562,13874964982419472308,5173953181071844509,5615751895262237939,4941752670844118600,16203679033354392874,14712077907107959277,16337914719854201846,6531442153746177128,14194663295104695616,4534933068400390657,7262160739443047838,5752790583666708941,4863095209128836662,8352703515361797755,337867160903401868,10992113497116646001,16909216741560437109,11893120751304626942,1125160240832120182,3626739556018553871,14023129358220355687,11177193476556092421,15308037697050920686,15298117696424949212,6818534125984460103,15841754175645970547,5658120392235887474,15136793916924334787,3774921253118411700,4564036060695640955,825740300549928085,4891636288461320038,12384616198518925361,3806274531594431357,10885499170187179968,14923328952548945946,7469784290968133967,14829823243297303650,2125308069535244253,8272582750246839156,10039812137888914178,8486314926255750478,6817047941946052733,1142590970254049387,6248892937991631189,3003314452009162791,2551491534185647194,16194014959973738944,11114007369083713373,13356607129400399863]
theorem s0_b0:compress K512 H512 (fun i=>padM (hm (List.replicate 32 (0:Int))) 32 (128*0+i))=⟨5784501819529508998,8875394189467271742,6392148771104782992,17688275192906248598,750559530768849608,3837712697366766460,18168856067073835,9172008494005186003⟩:=blk_tab _ _ _ s0_w0 s0_a0 s0_e0 (by decide +kernel) (by decide +kernel)
theorem s0:h5 (List.replicate 32 (0:Int)) = [80,70,173,193,219,168,56,134,123,43,187,253,208,195,66,62,88,181,121,112,181,38,122,144,245,121,96,146,74,135,241,150,10,106,133,234,166,66,218,200,53,66,75,93,124,141,99,124,0,64,140,122,115,218,103,43,127,73,133,33,66,11,109,211]:=by
 refine (h5_one (List.replicate 32 (0:Int)) _ rfl s0_b0).trans ?_
 decide +kernel
end Go.Proofs.YtkhjnjlinfbfoaaGreatDoor.Wi
namespace Go.Proofs.YtkhjnjlinfbfoaaGreatDoor.Ve
open Go Go.RowKit
set_option maxRecDepth 100000
def gHlvF (F:Fs):List Value→Option (List Prop × Value)
 | [A]=>some ([IsB A],.tuple #[bv (F.hlv (bnum A)).1,bv (F.hlv (bnum A)).2])
 | _=>none
theorem gHlv_ok {X:Cx} (hX:X.Ok Tryz.prog) (hc:coversG MA X.gl=true):(X.var MA 27 (gHlvF R0)).Ok Tryz.prog:=by
 refine gVar_ok hX MA_flat hc Tryz.func27 (by kernel_rfl) (by kernel_rfl) ?_
 intro args ps v ha hg hp
 unfold gHlvF at hg
 split at hg
 ·rename_i A
  simp only [Option.some.injEq,Prod.mk.injEq] at hg
  obtain ⟨rfl,rfl⟩:=hg
  have hA:A=bv (bnum A):=hp _ (List.mem_singleton.2 rfl)
  refine ⟨.inl rfl,fun w hw => ?_⟩
  have h:=halves_any (bnum A) (bnum_lt hA) w hw
  rw [←hA,Wi.ag_le (sk_l32 _),Wi.ag_le (pf_l32 _)] at h
  exact h
 ·simp at hg
def EG (F:Fs):Cx:=(EF F).var MA 27 (gHlvF F)
theorem EG_ok:(EG R0).Ok Tryz.prog:=gHlv_ok EF_ok MA_cov
theorem pub_run (F:Fs) (s:Nat):sfunG Tryz.prog (EG F) MA 60 Tryz.f10 (bodyOf Tryz.f10) [bv s]=some ([IsB (bv s),IsB (bv (F.hlv (bnum (bv s))).1)],bv (F.bas (bnum (bv (F.hlv (bnum (bv s))).1)))):=by kernel_rfl
def pubN (F:Fs) (s:Nat):Nat:=F.bas (F.hlv s).1
theorem R0_bas:R0.bas=basN:=rfl
theorem R0_hlv:R0.hlv=hlvN:=rfl
theorem hlv_lt (s:Nat):(hlvN s).1<RN:=Wi.le32 (sk_l32 _)
theorem pub_gen {F:Fs} (hX:(EG F).Ok Tryz.prog) (hL : ∀ s,(F.hlv s).1<RN) (s:Nat) (hs:s<RN) (w:World) (hw:Glo MA w):Calls Tryz.prog 10 #[bv s] w fun e w'=>e = .returned (bv (pubN F s))∧Below w.heap.size w w':=by
 have run:=pub_run F s
 rw [bnum_bv' hs,bnum_bv' (hL s)] at run
 exact sfunG_calls hX mixed MA_flat MA_in Tryz.func10 (by kernel_rfl) run (fun q hq=>by
  simp only [List.mem_cons,List.not_mem_nil,or_false] at hq
  rcases hq with rfl | rfl <;> exact isB_bv _) (by simp [flat_bv]) (.inl (flat_bv _)) w hw
theorem hlv_ltF {F:Fs} (h:F.hlv=hlvN) (s:Nat):(F.hlv s).1<RN:=by rw [h];exact hlv_lt s
theorem pub_any (s:Nat) (hs:s<RN) (w:World) (hw:Glo MA w):Calls Tryz.prog 10 #[bv s] w fun e w'=>e = .returned (bv (pubN R0 s))∧Below w.heap.size w w':=pub_gen EG_ok (hlv_ltF R0_hlv) s hs w hw
theorem pub_eq {F:Fs} (h1:F.bas=basN) (h2:F.hlv=hlvN) (s:Nat):pubN F s=basN (hlvN s).1:=by unfold pubN;rw [h1,h2]
def gPubF (F:Fs):List Value→Option (List Prop × Value)
 | [A]=>some ([IsB A],bv (pubN F (bnum A)))
 | _=>none
theorem gPub_ok {X:Cx} (hX:X.Ok Tryz.prog) (hc:coversG MA X.gl=true):(X.var MA 10 (gPubF R0)).Ok Tryz.prog:=by
 refine gVar_ok hX MA_flat hc Tryz.func10 (by kernel_rfl) (by kernel_rfl) ?_
 intro args ps v ha hg hp
 unfold gPubF at hg
 split at hg
 ·rename_i A
  simp only [Option.some.injEq,Prod.mk.injEq] at hg
  obtain ⟨rfl,rfl⟩:=hg
  have hA:IsB A:=hp _ (List.mem_singleton.2 rfl)
  refine ⟨.inl (flat_bv _),fun w hw => ?_⟩
  have h:=pub_any (bnum A) (bnum_lt hA) w hw
  rw [← (show A=bv (bnum A) from hA)] at h
  exact h
 ·simp at hg
def num0:Nat:=39325648866980652792715009169219496062012184734522019333892538943312776480336
theorem hlv0:(hlvN 0).1=num0:=by
 unfold hlvN
 rw [show Wi.bi 0=List.replicate 32 (0:Int) by decide +kernel,sk,Wi.s0]
 decide +kernel
def T0:P4:=timesN num0 genN
def X0:Nat:=9639205628789703341510410801487549615560488670885798085067615194958049462616
def Y0:Nat:=18930617471878267742194159801949745215346600387277955685031939302387136031291
theorem T0_x:decide (T0.z % pp≠0) && (decide (T0.x % pp=X0*T0.z % pp) && (decide (T0.y % pp=Y0*T0.z % pp) && decide (T0.t % pp=X0*Y0 % pp*T0.z % pp)))=true:=by decide +kernel
def K0:PT:=⟨cK X0,cK Y0,by unfold On DK;decide +kernel⟩
theorem rep0:Rep (cP T0) K0:=by
 have h:=T0_x
 simp only [Bool.and_eq_true,decide_eq_true_eq] at h
 obtain ⟨h1,h2,h3,h4⟩:=h
 refine ⟨fun e=>h1 (cK_eq_zero.1 e),?_,?_,?_⟩
 ·show cK T0.x=cK X0*cK T0.z
  rw [←cK_mul];exact cK_eq.2 (by rw [h2,Nat.mod_mod])
 ·show cK T0.y=cK Y0*cK T0.z
  rw [←cK_mul];exact cK_eq.2 (by rw [h3,Nat.mod_mod])
 ·show cK T0.t=cK X0*cK Y0*cK T0.z
  rw [←cK_mul,←cK_mul];exact cK_eq.2 (by rw [h4,Nat.mod_mod])
def enc0:Nat:=18930617471878267742194159801949745215346600387277955685031939302387136031291
theorem K0_enc:enc K0=enc0:=by decide +kernel
theorem bas0:basN num0=enc0:=by
 have h:=wr_enc rep0
 rw [K0_enc] at h
 unfold T0 at h
 unfold basN
 exact h
theorem pub0' {F:Fs} (h1:F.bas=basN) (h2:F.hlv=hlvN):pubN F 0=enc0:=by rw [pub_eq h1 h2,hlv0,bas0]
theorem pub0:pubN R0 0=enc0:=pub0' R0_bas R0_hlv
theorem key0:by8 enc0 0=59∧by8 enc0 1=106∧by8 enc0 2=39:=by decide +kernel
def XW (F:Fs):Cx:=(EG F).var MA 10 (gPubF F)
theorem XW_ok:(XW R0).Ok Tryz.prog:=gPub_ok EG_ok MA_cov
def aK (F:Fs):Nat:=pubN F (bnum (bv 0))
theorem aw_run (F:Fs):sfunG Tryz.prog ((XW F).tell [(7,true),(11,true),(16,true)]) MA 60 Tryz.f5 (bodyOf Tryz.f5) []=some ([IsB (bv 0),(by8 (aK F) 0 == 59)=true,(by8 (aK F) 1 == 106)=true,(by8 (aK F) 2 == 39)=true],.bool true):=by kernel_rfl
theorem aw_gen {F:Fs} (hX:(XW F).Ok Tryz.prog) (h:pubN F 0=enc0) (w:World) (hw:Glo MA w):Calls Tryz.prog 5 #[] w fun e w'=>e = .returned (.bool true)∧Below w.heap.size w w':=by
 have hk:aK F=enc0:=by unfold aK;rw [bnum_bv' (by decide)];exact h
 have run:=aw_run F
 refine sfunG_calls (Cx.tell_ok hX _) mixed MA_flat MA_in Tryz.func5 (by kernel_rfl) run (fun p hp => ?_) rfl (.inl rfl) w hw
 obtain ⟨k0,k1,k2⟩:=key0
 simp only [List.mem_cons,List.not_mem_nil,or_false] at hp
 rcases hp with rfl | rfl | rfl | rfl
 ·exact isB_bv _
 ·rw [hk,k0];rfl
 ·rw [hk,k1];rfl
 ·rw [hk,k2];rfl
theorem awake_any (w:World) (hw:Glo MA w):Calls Tryz.prog 5 #[] w fun e w'=>e = .returned (.bool true)∧Below w.heap.size w w':=aw_gen XW_ok pub0 w hw
end Go.Proofs.YtkhjnjlinfbfoaaGreatDoor.Ve
/- What a law's world holds of the variables. -/
namespace Go.Proofs.YtkhjnjlinfbfoaaGreatDoor.Ve
open Go Go.ChangeShapes Go.WideShapes Go.ChangeAt Go.RowKit
set_option maxRecDepth 100000
theorem laid_tail {P:Program} {W:World} {n:String} {d:DataW Unit} {rest:List (String × DataW Unit)} (h:laidMet P ((n,d) :: rest) W):laidMet P rest W:=by
 obtain ⟨ps,⟨g,t,cs,fuel,p,q,e1,e2,e3,e4,hr,rfl⟩,hnd,hrows⟩:=h
 exact ⟨q,hr,(List.nodup_append.1 hnd).2.1,fun b off hp=>hrows b off (List.mem_append_right _ hp)⟩
theorem blk_ofG {W:World} {name:String} {g:Nat} {zs:List Int} {k:IntKind} {t:TypeId} {cells:List Value} (hS:W.ShapedOpen Tryz.prog) (hg:Tryz.prog.globalNamed name=some g) (hl:g<Tryz.prog.globals.size)
  (ht:(((begin Tryz.prog (fun _ _=>0) default).world.heap[g]?).bind Obj.row?).map Prod.snd=some t) (hT:Lib.TabIs Tryz.prog W name k zs) (hz:(zs.map fun z=>Value.int k z)=cells) :
  W.heap[g]? = some (.cells cells.toArray t (0,0)):=by
 obtain ⟨q,hq,hq2⟩:=Option.map_eq_some_iff.1 ht
 obtain ⟨zero,t⟩:=q
 simp only at hq2
 subst hq2
 obtain ⟨cs,h1,_,_⟩:=hS.1 g zero _ hl hq
 unfold Lib.TabIs World.var? at hT
 rw [hg,Option.bind_some,h1] at hT
 simp only [Option.some.injEq] at hT
 rw [h1,hT,hz]
theorem c_u8:Tryz.prog.cellsOf 5=1:=by kernel_rfl
theorem c_u64:Tryz.prog.cellsOf 38=1:=by kernel_rfl
def n_sq:List Int:=[7640891576956012808,13503953896175478587,4354685564936845355,11912009170470909681,5840696475078001361,11170449401992604703,2270897969802886507,6620516959819538809]
def n_cu:List Int:=[4794697086780616226,8158064640168781261,13096744586834688815,16840607885511220156,4131703408338449720,6480981068601479193,10538285296894168987,12329834152419229976,15566598209576043074,1334009975649890238,2608012711638119052,6128411473006802146,8268148722764581231,9286055187155687089,11230858885718282805,13951009754708518548,16472876342353939154,17275323862435702243,1135362057144423861,2597628984639134821,3308224258029322869,5365058923640841347,6679025012923562964,8573033837759648693,10970295158949994411,12119686244451234320,12683024718118986047,13788192230050041572,14330467153632333762,15395433587784984357,489312712824947311,1452737877330783856,2861767655752347644,3322285676063803686,5560940570517711597,5996557281743188959,7280758554555802590,8532644243296465576,9350256976987008742,10552545826968843579,11727347734174303076,12113106623233404929,14000437183269869457,14369950271660146224,15101387698204529176,15463397548674623760,17586052441742319658,1182934255886127544,1847814050463011016,2177327727835720531,2830643537854262169,3796741975233480872,4115178125766777443,5681478168544905931,6601373596472566643,7507060721942968483,8399075790359081724,8693463985226723168,9568029438360202098,10144078919501101548,10430055236837252648,11840083180663258601,13761210420658862357,14299343276471374635,14566680578165727644,15097957966210449927,16922976911328602910,17689382322260857208,500013540394364858,748580250866718886,1242879168328830382,1977374033974150939,2944078676154940804,3659926193048069267,4368137639120453308,4836135668995329356,5532061633213252278,6448918945643986474,6902733635092675308,7801388544844847127]
def n_one:List Int:=[1,0,0,0,0,0,0,0,0,0,0,0,0,0,0,0,0,0,0,0,0,0,0,0,0,0,0,0,0,0,0,0]
def n_curve:List Int:=[163,120,89,19,202,77,235,117,171,216,65,65,77,10,112,0,152,232,121,119,121,64,199,140,115,254,111,43,238,108,3,82]
def n_generatorX:List Int:=[26,213,37,143,96,45,86,201,178,167,37,149,96,199,44,105,92,220,214,253,49,226,164,192,254,83,110,205,211,54,105,33]
def n_generatorY:List Int:=[88,102,102,102,102,102,102,102,102,102,102,102,102,102,102,102,102,102,102,102,102,102,102,102,102,102,102,102,102,102,102,102]
theorem z_sq:(n_sq.map fun z=>Value.int .u64 z)=sqL:=by kernel_rfl
theorem g_sq : Tryz.prog.globalNamed "beacon/sha2.squares512" = some 0 := by kernel_rfl
theorem gt_sq:(Tryz.prog.globals[0]?).map (·.type)=some 93:=by kernel_rfl
theorem gs_sq:0<Tryz.prog.globals.size:=of_decide_eq_true (by kernel_rfl)
theorem gw_sq:(((begin Tryz.prog (fun _ _=>0) default).world.heap[0]?).bind Obj.row?).map Prod.snd=some 93:=by kernel_rfl
theorem cc_sq:Tryz.prog.cellsOf 93=8:=by kernel_rfl
theorem blk_sq {W : World} {rest : List (String × DataW Unit)} (hS : W.ShapedOpen Tryz.prog) (h : laidMet Tryz.prog (("beacon/sha2.squares512", Lib.tabData .u64 n_sq) :: rest) W) : W.heap[0]? = some (.cells sqL.toArray 93 (0, 0)) :=
 blk_ofG hS g_sq gs_sq gw_sq (Lib.tabIs_of_head g_sq gt_sq Tryz.underlying93 Tryz.underlying38 c_u64 cc_sq h) z_sq
theorem z_cu:(n_cu.map fun z=>Value.int .u64 z)=cuL:=by kernel_rfl
theorem g_cu : Tryz.prog.globalNamed "beacon/sha2.cubes512" = some 3 := by kernel_rfl
theorem gt_cu:(Tryz.prog.globals[3]?).map (·.type)=some 103:=by kernel_rfl
theorem gs_cu:3<Tryz.prog.globals.size:=of_decide_eq_true (by kernel_rfl)
theorem gw_cu:(((begin Tryz.prog (fun _ _=>0) default).world.heap[3]?).bind Obj.row?).map Prod.snd=some 103:=by kernel_rfl
theorem cc_cu:Tryz.prog.cellsOf 103=80:=by kernel_rfl
theorem blk_cu {W : World} {rest : List (String × DataW Unit)} (hS : W.ShapedOpen Tryz.prog) (h : laidMet Tryz.prog (("beacon/sha2.cubes512", Lib.tabData .u64 n_cu) :: rest) W) : W.heap[3]? = some (.cells cuL.toArray 103 (0, 0)) :=
 blk_ofG hS g_cu gs_cu gw_cu (Lib.tabIs_of_head g_cu gt_cu Tryz.underlying103 Tryz.underlying38 c_u64 cc_cu h) z_cu
theorem z_one:(n_one.map fun z=>Value.int .u8 z)=(bl 1):=by kernel_rfl
theorem g_one : Tryz.prog.globalNamed "beacon/point.one" = some 5 := by kernel_rfl
theorem gt_one:(Tryz.prog.globals[5]?).map (·.type)=some 22:=by kernel_rfl
theorem gs_one:5<Tryz.prog.globals.size:=of_decide_eq_true (by kernel_rfl)
theorem gw_one:(((begin Tryz.prog (fun _ _=>0) default).world.heap[5]?).bind Obj.row?).map Prod.snd=some 22:=by kernel_rfl
theorem cc_one:Tryz.prog.cellsOf 22=32:=by kernel_rfl
theorem blk_one {W : World} {rest : List (String × DataW Unit)} (hS : W.ShapedOpen Tryz.prog) (h : laidMet Tryz.prog (("beacon/point.one", Lib.tabData .u8 n_one) :: rest) W) : W.heap[5]? = some (.cells ((bl 1)).toArray 22 (0, 0)) :=
 blk_ofG hS g_one gs_one gw_one (Lib.tabIs_of_head g_one gt_one Tryz.underlying22 Tryz.underlying5 c_u8 cc_one h) z_one
theorem z_curve:(n_curve.map fun z=>Value.int .u8 z)=(bl DN'):=by kernel_rfl
theorem g_curve : Tryz.prog.globalNamed "beacon/point.curve" = some 4 := by kernel_rfl
theorem gt_curve:(Tryz.prog.globals[4]?).map (·.type)=some 22:=by kernel_rfl
theorem gs_curve:4<Tryz.prog.globals.size:=of_decide_eq_true (by kernel_rfl)
theorem gw_curve:(((begin Tryz.prog (fun _ _=>0) default).world.heap[4]?).bind Obj.row?).map Prod.snd=some 22:=by kernel_rfl
theorem cc_curve:Tryz.prog.cellsOf 22=32:=by kernel_rfl
theorem blk_curve {W : World} {rest : List (String × DataW Unit)} (hS : W.ShapedOpen Tryz.prog) (h : laidMet Tryz.prog (("beacon/point.curve", Lib.tabData .u8 n_curve) :: rest) W) : W.heap[4]? = some (.cells ((bl DN')).toArray 22 (0, 0)) :=
 blk_ofG hS g_curve gs_curve gw_curve (Lib.tabIs_of_head g_curve gt_curve Tryz.underlying22 Tryz.underlying5 c_u8 cc_curve h) z_curve
theorem z_generatorX:(n_generatorX.map fun z=>Value.int .u8 z)=(bl GX):=by kernel_rfl
theorem g_generatorX : Tryz.prog.globalNamed "beacon/point.generatorX" = some 1 := by kernel_rfl
theorem gt_generatorX:(Tryz.prog.globals[1]?).map (·.type)=some 22:=by kernel_rfl
theorem gs_generatorX:1<Tryz.prog.globals.size:=of_decide_eq_true (by kernel_rfl)
theorem gw_generatorX:(((begin Tryz.prog (fun _ _=>0) default).world.heap[1]?).bind Obj.row?).map Prod.snd=some 22:=by kernel_rfl
theorem cc_generatorX:Tryz.prog.cellsOf 22=32:=by kernel_rfl
theorem blk_generatorX {W : World} {rest : List (String × DataW Unit)} (hS : W.ShapedOpen Tryz.prog) (h : laidMet Tryz.prog (("beacon/point.generatorX", Lib.tabData .u8 n_generatorX) :: rest) W) : W.heap[1]? = some (.cells ((bl GX)).toArray 22 (0, 0)) :=
 blk_ofG hS g_generatorX gs_generatorX gw_generatorX (Lib.tabIs_of_head g_generatorX gt_generatorX Tryz.underlying22 Tryz.underlying5 c_u8 cc_generatorX h) z_generatorX
theorem z_generatorY:(n_generatorY.map fun z=>Value.int .u8 z)=(bl GY):=by kernel_rfl
theorem g_generatorY : Tryz.prog.globalNamed "beacon/point.generatorY" = some 2 := by kernel_rfl
theorem gt_generatorY:(Tryz.prog.globals[2]?).map (·.type)=some 22:=by kernel_rfl
theorem gs_generatorY:2<Tryz.prog.globals.size:=of_decide_eq_true (by kernel_rfl)
theorem gw_generatorY:(((begin Tryz.prog (fun _ _=>0) default).world.heap[2]?).bind Obj.row?).map Prod.snd=some 22:=by kernel_rfl
theorem cc_generatorY:Tryz.prog.cellsOf 22=32:=by kernel_rfl
theorem blk_generatorY {W : World} {rest : List (String × DataW Unit)} (hS : W.ShapedOpen Tryz.prog) (h : laidMet Tryz.prog (("beacon/point.generatorY", Lib.tabData .u8 n_generatorY) :: rest) W) : W.heap[2]? = some (.cells ((bl GY)).toArray 22 (0, 0)) :=
 blk_ofG hS g_generatorY gs_generatorY gw_generatorY (Lib.tabIs_of_head g_generatorY gt_generatorY Tryz.underlying22 Tryz.underlying5 c_u8 cc_generatorY h) z_generatorY
def L6 : List (String × DataW Unit) := [("beacon/sha2.squares512", Lib.tabData .u64 n_sq), ("beacon/sha2.cubes512", Lib.tabData .u64 n_cu), ("beacon/point.one", Lib.tabData .u8 n_one), ("beacon/point.curve", Lib.tabData .u8 n_curve), ("beacon/point.generatorX", Lib.tabData .u8 n_generatorX), ("beacon/point.generatorY", Lib.tabData .u8 n_generatorY)]
theorem gloA {W:World} (hS:W.ShapedOpen Tryz.prog) (h:laidMet Tryz.prog L6 W):Glo MA W:=by
 have h1:=blk_sq hS h
 have h:=laid_tail h
 have h2:=blk_cu hS h
 have h:=laid_tail h
 have h3:=blk_one hS h
 have h:=laid_tail h
 have h4:=blk_curve hS h
 have h:=laid_tail h
 have h5:=blk_generatorX hS h
 have h:=laid_tail h
 have h6:=blk_generatorY hS h
 unfold MA
 exact Ve.Glo.set (Ve.Glo.set (Ve.Glo.set (Ve.Glo.set (Ve.Glo.set (Ve.Glo.set (Ve.Glo.rep _ _) h6) h4) h3) h5) h1) h2
end Go.Proofs.YtkhjnjlinfbfoaaGreatDoor.Ve
