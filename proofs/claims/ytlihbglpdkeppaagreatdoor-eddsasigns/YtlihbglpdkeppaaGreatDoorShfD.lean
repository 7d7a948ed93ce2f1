/- SHA-512: mix512. -/
import Derived.Test.YtlihbglpdkeppaaGreatDoorShfA
set_option linter.unusedSimpArgs false
set_option linter.unusedVariables false
namespace Go.Proofs.YtlihbglpdkeppaaGreatDoor.Shf
open Go Go.RowKit
def K5:List Int:=[4794697086780616226,8158064640168781261,13096744586834688815,16840607885511220156,4131703408338449720,6480981068601479193,10538285296894168987,12329834152419229976,15566598209576043074,1334009975649890238,2608012711638119052,6128411473006802146,8268148722764581231,9286055187155687089,11230858885718282805,13951009754708518548,16472876342353939154,17275323862435702243,1135362057144423861,2597628984639134821,3308224258029322869,5365058923640841347,6679025012923562964,8573033837759648693,10970295158949994411,12119686244451234320,12683024718118986047,13788192230050041572,14330467153632333762,15395433587784984357,489312712824947311,1452737877330783856,2861767655752347644,3322285676063803686,5560940570517711597,5996557281743188959,7280758554555802590,8532644243296465576,9350256976987008742,10552545826968843579,11727347734174303076,12113106623233404929,14000437183269869457,14369950271660146224,15101387698204529176,15463397548674623760,17586052441742319658,1182934255886127544,1847814050463011016,2177327727835720531,2830643537854262169,3796741975233480872,4115178125766777443,5681478168544905931,6601373596472566643,7507060721942968483,8399075790359081724,8693463985226723168,9568029438360202098,10144078919501101548,10430055236837252648,11840083180663258601,13761210420658862357,14299343276471374635,14566680578165727644,15097957966210449927,16922976911328602910,17689382322260857208,500013540394364858,748580250866718886,1242879168328830382,1977374033974150939,2944078676154940804,3659926193048069267,4368137639120453308,4836135668995329356,5532061633213252278,6448918945643986474,6902733635092675308,7801388544844847127]
def H5:List Int:=[7640891576956012808,13503953896175478587,4354685564936845355,11912009170470909681,5840696475078001361,11170449401992604703,2270897969802886507,6620516959819538809]
def Mg (sq kc:List Value):Mem:=((List.replicate (Nat.max 0 3+1) none).set 0 (some ⟨sq,91⟩)).set 3 (some ⟨kc,104⟩)
def K512:List Value:=K5.map (Value.int .u64)
def H512:List Value:=H5.map (Value.int .u64)
def M5:Mem:=Mg H512 K512
def gl5:List Nat:=[0,3]
theorem M5_flat:flatM M5=true:=by kernel_rfl
theorem M5_in:insideG M5 gl5=true:=by kernel_rfl
theorem M5_cov:coversG M5 gl5=true:=by kernel_rfl
def ng:Nat:=Nat.max 0 3+1
theorem M5_len:M5.length=ng:=by kernel_rfl
structure S8 where
  (a b c d e f g h:Int)
def rowS (s:S8):List Value:=[.int .u64 s.a,.int .u64 s.b,.int .u64 s.c,.int .u64 s.d,.int .u64 s.e,.int .u64 s.f,.int .u64 s.g,.int .u64 s.h]
def aggS (s:S8):Value := .agg (rowS s).toArray
def s8of (qs:List Value):S8 :=
  match qs with
  | [.agg xs]=>⟨intAt xs 0,intAt xs 1,intAt xs 2,intAt xs 3,intAt xs 4,intAt xs 5,intAt xs 6,intAt xs 7⟩
  | _=>⟨0,0,0,0,0,0,0,0⟩
def and64 (x y:Int):Int:=bits .and .u64 x y
def not64 (x:Int):Int:=bits .xor .u64 18446744073709551615 x
def tOne (s:S8) (k w:Int):Int:=add64 (add64 (add64 (add64 s.h (up1 s.e)) (xor64 (and64 s.e s.f) (and64 (not64 s.e) s.g))) k) w
def tTwo (s:S8):Int:=add64 (up0 s.a) (xor64 (xor64 (and64 s.a s.b) (and64 s.a s.c)) (and64 s.b s.c))
def rnd (s:S8) (k w:Int):S8:=⟨add64 (tOne s k w) (tTwo s),s.a,s.b,s.c,add64 s.d (tOne s k w),s.e,s.f,s.g⟩
def addS (s t:S8):S8:=⟨add64 s.a t.a,add64 s.b t.b,add64 s.c t.c,add64 s.d t.d,add64 s.e t.e,add64 s.f t.f,add64 s.g t.g,add64 s.h t.h⟩
def rs (s:S8) (x:Nat→Int):Nat→S8
  | 0=>s
  | t+1=>rnd (rs s x t) (K5.getD t 0) (x t)
def mixS (s:S8) (x:Nat→Int):S8:=addS s (rs s x 80)
def H5c (S:List Value→Nat→Nat→Int):Cx:=(H4.read 104 (gRd [] T80 (fun l o _ _=>V80 (S l o)))).glo gl5
theorem H5c_ok:(H5c Wd).Ok Tryz.prog:=Cx.glo_ok (gSch_ok H4_ok) (by intro g hg;cases hg)
def N5 (S:List Value→Nat→Nat→Int):Cx:=(H5c S).terms
theorem N5_ok:(N5 Wd).Ok Tryz.prog:=Cx.terms_ok H5c_ok
def N5t (S:List Value→Nat→Nat→Int) (d:List (Nat × Bool)):Cx:=(N5 S).tell d
theorem N5t_ok (d:List (Nat × Bool)):(N5t Wd d).Ok Tryz.prog:=Cx.tell_ok N5_ok d
theorem N5_gl:(N5 Wd).gl=gl5:=by kernel_rfl
theorem N5t_gl (d:List (Nat × Bool)):(N5t Wd d).gl=gl5:=by kernel_rfl
def ldT (s:S8):List Prop:=(List.range 8).flatMap fun (i:Nat)=>[(0:Int)≤(i:Int)∧(i:Int)<((8:Nat):Int),(rowS s)[i]? = some (.int .u64 (intL (rowS s) i))]
def mxP (c:Code):List Code:=[cL c,cL (cR c),cL (cR (cR c)),cL (cR (cR (cR c)))]
def mxQ (c:Code):List Code:=[cL (cL (cR (cR (cR (cR c)))))]
def mxB (c:Code):Code:=cL (cL (cR (cL (cR (cR (cR (cR c)))))))
def mxE (c:Code):Code:=cR (cR (cR (cR (cR c))))
theorem mx_code:bodyOf Tryz.f72=seqs (mxP (bodyOf Tryz.f72)) (.seq (seqs (mxQ (bodyOf Tryz.f72)) (.block 0 (.loop (mxB (bodyOf Tryz.f72))))) (mxE (bodyOf Tryz.f72))):=by kernel_rfl
def mx0 (fn:Func) (sq kc l:List Value) (ty:BT) (o n k:Nat) (s:S8):Act × Mem:=(sinit fn [aggS s,slv ng o n k],Mg sq kc ++ [some ⟨l,ty⟩])
def mxS (P:Program) (S:List Value→Nat→Nat→Int) (fn:Func) (sq kc l:List Value) (ty:BT) (o n k:Nat) (s:S8):Act × Mem:=runL P (N5 S) 40 (mxP (bodyOf fn)) (mx0 fn sq kc l ty o n k s)
theorem mx_pre (S:List Value→Nat→Nat→Int) (sq kc l:List Value) (ty:BT) (o n k:Nat) (s:S8):sexecL Tryz.prog (N5 S) 40 (mxP (bodyOf Tryz.f72)) [] (mx0 Tryz.f72 sq kc l ty o n k s)=some ([l.all flatR=true,T80 l o n k []] ++ ldT s,mxS Tryz.prog S Tryz.f72 sq kc l ty o n k s):=by kernel_rfl
def mxF:List Nat:=[0,1,3] ++ (List.range 21).map (· + 14) ++ (List.range 83).map (· + 36)
def z8:List Value:=List.replicate 8 (.int .u64 0)
def mxhd (sq kc l:List Value) (ty:BT) (s:S8) (ws:List Value) (i:Int) (t:S8):Act × Mem :=
  (⟨#[poison,poison,ptr (ng+1),poison,ptr (ng+2),ptr (ng+3),.int .u64 t.a,.int .u64 t.b,.int .u64 t.c,.int .u64 t.d,.int .u64 t.e,.int .u64 t.f,.int .u64 t.g,.int .u64 t.h] ++ Array.replicate 21 poison ++ #[.int .i64 i] ++ Array.replicate 83 poison,[]⟩,
   Mg sq kc ++ [some ⟨l,ty⟩,some ⟨rowS s,91⟩,some ⟨z8,91⟩,some ⟨ws,104⟩])
def mxK (s:Act × Mem):Act × Mem:=(forgetL s.1 mxF,s.2)
def mxS1 (P:Program) (S:List Value→Nat→Nat→Int) (fn:Func) (sq kc l:List Value) (ty:BT) (o n k:Nat) (s:S8):Act × Mem:=runL P (N5 S) 40 (mxQ (bodyOf fn)) (mxS P S fn sq kc l ty o n k s)
theorem mx_pre1 (S:List Value→Nat→Nat→Int) (sq kc l:List Value) (ty:BT) (o n k:Nat) (s:S8):sexecL Tryz.prog (N5 S) 40 (mxQ (bodyOf Tryz.f72)) [] (mxS Tryz.prog S Tryz.f72 sq kc l ty o n k s)=some ([],mxS1 Tryz.prog S Tryz.f72 sq kc l ty o n k s):=by kernel_rfl
theorem mx_h0 (S:List Value→Nat→Nat→Int) (sq kc l:List Value) (ty:BT) (o n k:Nat) (s:S8):mxK (mxS1 Tryz.prog S Tryz.f72 sq kc l ty o n k s)=mxhd sq kc l ty s (row80 (S l o)) 0 s:=by kernel_rfl
def mxT (kc ws:List Value) (i:Int):List Prop:=[decide (i<80)=true,0≤i∧i<((80:Nat):Int),kc[at0 i]? = some (.int .u64 (intL kc (at0 i))),0≤i∧i<((80:Nat):Int),ws[at0 i]? = some (.int .u64 (intL ws (at0 i)))]
theorem mx_round (S:List Value→Nat→Nat→Int) (sq kc l:List Value) (ty:BT) (s:S8) (ws:List Value) (i:Int) (t:S8):proj mxK (sexec Tryz.prog (N5t S [(36,true)]) 40 (mxB (bodyOf Tryz.f72)) [] (mxhd sq kc l ty s ws i t)) =
    some (mxT kc ws i,mxhd sq kc l ty s ws (IntKind.i64.wrap (i+1)) (rnd t (intL kc (at0 i)) (intL ws (at0 i)))):=by kernel_rfl
def mxX (P:Program) (S:List Value→Nat→Nat→Int) (fn:Func) (sq kc l:List Value) (ty:BT) (s:S8) (ws:List Value) (t:S8):Act × Mem:=runS P (N5 S) 40 (mxB (bodyOf fn)) (mxhd sq kc l ty s ws 80 t)
theorem mx_exit (S:List Value→Nat→Nat→Int) (sq kc l:List Value) (ty:BT) (s:S8) (ws:List Value) (t:S8):sexec Tryz.prog (N5 S) 40 (mxB (bodyOf Tryz.f72)) [] (mxhd sq kc l ty s ws 80 t)=some ([],.exit 0,mxX Tryz.prog S Tryz.f72 sq kc l ty s ws t):=by kernel_rfl
def mxZ (P:Program) (S:List Value→Nat→Nat→Int) (fn:Func) (sq kc l:List Value) (ty:BT) (s:S8) (ws:List Value) (t:S8):Act × Mem:=runS P (N5 S) 60 (mxE (bodyOf fn)) (mxX P S fn sq kc l ty s ws t)
theorem mx_end (S:List Value→Nat→Nat→Int) (sq kc l:List Value) (ty:BT) (s:S8) (ws:List Value) (t:S8):sexec Tryz.prog (N5 S) 60 (mxE (bodyOf Tryz.f72)) [] (mxX Tryz.prog S Tryz.f72 sq kc l ty s ws t)=some (ldT s,.ret,mxZ Tryz.prog S Tryz.f72 sq kc l ty s ws t):=by kernel_rfl
theorem mx_res (S:List Value→Nat→Nat→Int) (sq kc l:List Value) (ty:BT) (s:S8) (ws:List Value) (t:S8):sres Tryz.prog Tryz.f72 (mxZ Tryz.prog S Tryz.f72 sq kc l ty s ws t)=some (aggS (addS s t)):=by kernel_rfl
theorem mx_def (S:List Value→Nat→Nat→Int) (sq kc l:List Value) (ty:BT) (s:S8) (ws:List Value) (t:S8):(mxZ Tryz.prog S Tryz.f72 sq kc l ty s ws t).1.defers = []:=by kernel_rfl
theorem mx_mem (S:List Value→Nat→Nat→Int) (sq kc l:List Value) (ty:BT) (s:S8) (ws:List Value) (t:S8):(mxZ Tryz.prog S Tryz.f72 sq kc l ty s ws t).2=(Mg sq kc ++ [some ⟨l,ty⟩]) ++ (mxZ Tryz.prog S Tryz.f72 sq kc l ty s ws t).2.drop (ng+1):=by kernel_rfl
theorem ldT_ok (s:S8) : ∀ p ∈ ldT s,p:=by
  intro p hp
  unfold ldT at hp
  obtain ⟨i,hi,hp⟩:=List.mem_flatMap.1 hp
  rw [List.mem_range] at hi
  simp only [List.mem_cons,List.not_mem_nil,or_false] at hp
  rcases hp with rfl | rfl
  · omega
  · have:i=0∨i=1∨i=2∨i=3∨i=4∨i=5∨i=6∨i=7:=by omega
    rcases this with rfl | rfl | rfl | rfl | rfl | rfl | rfl | rfl <;> rfl
theorem K512_at {t:Nat} (h:t<80):K512[t]? = some (.int .u64 (intL K512 t))∧intL K512 t=K5.getD t 0:=by
  have hl:K5.length=80:=by kernel_rfl
  have e:K512[t]? = some (.int .u64 (K5.getD t 0)):=by
    unfold K512
    rw [List.getElem?_map,List.getElem?_eq_getElem (by omega)]
    simp [hl,h]
  have e2:intL K512 t=K5.getD t 0:=by unfold intL;rw [e]
  exact ⟨by rw [e2];exact e,e2⟩
theorem row80_at (x:Nat→Int) {t:Nat} (h:t<80):(row80 x)[t]? = some (.int .u64 (intL (row80 x) t))∧intL (row80 x) t=x t:=by
  have e:(row80 x)[t]? = some (.int .u64 (x t)):=by
    unfold row80
    rw [List.getElem?_map,List.getElem?_range h];rfl
  have e2:intL (row80 x) t=x t:=by unfold intL;rw [e]
  exact ⟨by rw [e2];exact e,e2⟩
def mxQf (P:Program) (fn:Func) (l:List Value) (ty:BT) (o:Nat) (s:S8):Exit→Act × Mem→Prop:=fun e z=>(e = .normal∨e = .ret)∧z.1.defers = [] ∧ ∃ v x,sres P fn z=some v∧(flat v=true∨v=undef)∧z.2=(M5 ++ [some ⟨l,ty⟩]) ++ x∧v=aggS (mixS s (Wd l o))
theorem mx_r (l:List Value) (ty:BT) (s:S8) (x:Nat→Int) (t:Nat) (ht:t<80) (Q:Exit→Act × Mem→Prop):SW Tryz.prog gl5 (mxB (bodyOf Tryz.f72)) (mxhd H512 K512 l ty s (row80 x) (t:Int) (rs s x t)) (thenS (fun z=>(forgetL z.1 mxF,z.2)=mxhd H512 K512 l ty s (row80 x) ((t+1:Nat):Int) (rs s x (t+1))) Q):=by
  obtain ⟨k1,k2⟩:=K512_at ht
  obtain ⟨r1,r2⟩:=row80_at x ht
  obtain ⟨z,hs,he⟩:=proj_some (mx_round Wd H512 K512 l ty s (row80 x) (t:Int) (rs s x t))
  refine SW.runG (N5t_ok _) mixed (N5t_gl _) 40 hs ?_ (thenS_norm ?_)
  · intro p hp
    unfold mxT at hp
    rw [at0_nat] at hp
    simp only [List.mem_cons,List.not_mem_nil,or_false] at hp
    rcases hp with rfl | rfl | rfl | rfl | rfl
    · simp;omega
    · omega
    · exact k1
    · omega
    · exact r1
  · rw [at0_nat,wrap_i64 (by omega) (by omega),show ((t:Nat):Int)+1=((t+1:Nat):Int) by omega,k2,r2] at he
    exact he
theorem mx_one (l:List Value) (ty:BT) (o n k:Nat) (s:S8) (hl:l.all flatR=true) (hk:128≤k) (hb:ByAt l o 128):SW Tryz.prog gl5 (bodyOf Tryz.f72) (mx0 Tryz.f72 H512 K512 l ty o n k s) (mxQf Tryz.prog Tryz.f72 l ty o s):=by
  rw [mx_code]
  refine SW.preG N5_ok mixed N5_gl rfl (mx_pre Wd H512 K512 l ty o n k s) ?_ (SW.seq ?_)
  · intro p hp
    rcases List.mem_append.1 hp with hp | hp
    · simp only [List.mem_cons,List.not_mem_nil,or_false] at hp
      rcases hp with rfl | rfl
      · exact hl
      · exact ⟨rfl,hk,hb⟩
    · exact ldT_ok s p hp
  refine SW.preG N5_ok mixed N5_gl rfl (mx_pre1 Wd H512 K512 l ty o n k s) (by simp) (SW.block ?_)
  refine SW.loopK rfl mxF (fun t=>mxhd H512 K512 l ty s (row80 (Wd l o)) (t:Int) (rs s (Wd l o) t)) 0 80 (mx_h0 Wd H512 K512 l ty o n k s) (by decide) (fun t _ ht=>mx_r l ty s (Wd l o) t ht _) ?_
  refine SW.runG N5_ok mixed N5_gl 40 (mx_exit Wd H512 K512 l ty s _ _) (by simp) (thenS_exit (blockS_exit (thenS_norm ?_)))
  exact SW.runG N5_ok mixed N5_gl 60 (mx_end Wd H512 K512 l ty s _ _) (ldT_ok s) ⟨.inr rfl,mx_def Wd H512 K512 l ty s _ _,_,_,mx_res Wd H512 K512 l ty s _ _,.inl rfl,mx_mem Wd H512 K512 l ty s _ _,rfl⟩
def Tmx (l:List Value) (o n k:Nat) (qs:List Value):Prop:=qs = [aggS (s8of qs)]∧128≤k∧ByAt l o 128
def Vmx (M:S8→List Value→Nat→S8) (l:List Value) (o n:Nat) (qs:List Value):Value:=aggS (M (s8of qs) l o)
def mixL (s:S8) (l:List Value) (o:Nat):S8:=mixS s (Wd l o)
theorem gMix_ok {X:Cx} (hX:X.Ok Tryz.prog) (hc:coversG M5 X.gl=true):(X.read 72 (gRd M5 Tmx (Vmx mixL))).Ok Tryz.prog:=by
  refine gRd_ok (gl:=gl5) hX M5_flat hc M5_in Tryz.func72 (by kernel_rfl) (show _=some (bodyOf Tryz.f72) from (by kernel_rfl)) ?_
  rintro l ty o n k qs hl hq ⟨hqs,hk,hb⟩
  refine ⟨rfl,?_⟩
  rw [hqs]
  exact mx_one l ty o n k (s8of qs) hl hk hb
end Go.Proofs.YtlihbglpdkeppaaGreatDoor.Shf
