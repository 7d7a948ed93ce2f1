import Derived.Test.YtajehiidpecknaaGreatDoorVrD
import Derived.Test.YtajehiidpecknaaGreatDoorRgnG
set_option linter.all false
namespace Go.Proofs.YtajehiidpecknaaGreatDoor.Wi
open Go Go.RowKit
set_option maxRecDepth 100000
theorem ko (x:List Int):Go.Proofs.YtajehiidpecknaaGreatDoor.flat2 (.agg (bv x).toArray)=true:=by
 show ((bv x).toArray.toList.all Go.Proofs.YtajehiidpecknaaGreatDoor.flat1)=true
 rw [YN]
 exact List.all_eq_true.2 fun u hu=>by obtain ⟨z,_,rfl⟩:=List.mem_map.1 hu;rfl
theorem gG (x:List Int):Go.Proofs.YtajehiidpecknaaGreatDoor.flat (.agg (bv x).toArray)=true:=ko x
theorem p5 (x y z:List Int):Go.Proofs.YtajehiidpecknaaGreatDoor.flat (.tuple #[.agg (bv x).toArray,.agg (bv y).toArray,.agg (bv z).toArray])=true:=by
 show ([_,_,_].all Go.Proofs.YtajehiidpecknaaGreatDoor.flat2)=true
 rw [List.all_cons,List.all_cons,List.all_cons,ko,ko,ko];rfl
theorem wX {n:Nat} {x:List Int} (h:x.length=n):Ve.kD n (gi x)=bv x:=by
 apply List.ext_getElem?
 intro i
 by_cases hi:i<n
 ·rw [de x (by omega),Ve.kD,List.getElem?_map,List.getElem?_range hi];rfl
 ·rw [List.getElem?_eq_none (l:=Ve.kD n (gi x)) (by simp [Ve.kD];omega),List.getElem?_eq_none (by rw [ae];omega)]
def pG (x:List Int):List Int:=x.take 32
def pC (x:List Int):List Int:=(x.drop 32).take 16
def pT (x:List Int):List Int:=x.drop 48
theorem Ji (x:List Int):(bv x).take 32=bv (pG x):=by unfold pG bv;rw [List.map_take]
theorem Jv (x:List Int):((bv x).drop 32).take 16=bv (pC x):=by unfold pC bv;rw [List.map_take,List.map_drop]
theorem JB (x:List Int):(bv x).drop 48=bv (pT x):=by unfold pT bv;rw [List.map_drop]
def wd (c:List Int):List Int:=c ++ List.replicate 16 0
theorem Jj (c:List Int):bv c ++ List.replicate 16 (Value.int .u8 0)=bv (wd c):=by unfold wd;rw [jm];rfl
theorem L32.pG {x:List Int} (h:x.length=80) (hb:Byt x):L32 (pG x):=⟨by rw [Wi.pG,List.length_take,h];rfl,fun z hz=>hb z (List.mem_of_mem_take hz)⟩
theorem L32.pT {x:List Int} (h:x.length=80) (hb:Byt x):L32 (pT x):=⟨by rw [Wi.pT,List.length_drop,h],fun z hz=>hb z (List.mem_of_mem_drop hz)⟩
theorem kY {x:List Int} (h:x.length=80):(pC x).length=16:=by rw [pC,List.length_take,List.length_drop,h];rfl
theorem xw {x:List Int} (hb:Byt x):Byt (pC x):=fun z hz=>hb z (List.mem_of_mem_drop (List.mem_of_mem_take hz))
theorem L32.wd {c:List Int} (h:c.length=16) (hb:Byt c):L32 (wd c):=⟨by rw [Wi.wd,List.length_append,h,List.length_replicate],fun z hz=>by
 rcases List.mem_append.1 hz with hz | hz
 ·exact hb z hz
 ·have:=(List.mem_replicate.1 hz).2;omega⟩
theorem CI {x:List Int} (h:x.length=80) (w:World) (hw:Glo Ve.MA w):Calls Tryz.prog 34 #[.agg (bv x).toArray] w fun e w'=>e = .returned (.tuple #[.agg (bv (pG x)).toArray,.agg (bv (pC x)).toArray,.agg (bv (pT x)).toArray])∧Below w.heap.size w w':=by
 have run:=Ve.Iy Ve.R0 (gi x)
 rw [wX h,Ji,Jv,JB] at run
 exact aH Ve.nG mixed Ve.fM Ve.nJ Tryz.func34 (by kernel_rfl) run (fun p hp=>by cases hp) (by rw [List.all_cons,gG];rfl) (.inl (p5 _ _ _)) w hw
theorem Lz {c:List Int} (h:c.length=16) (w:World) (hw:Glo Ve.MA w):Calls Tryz.prog 26 #[.agg (bv c).toArray] w fun e w'=>e = .returned (.agg (bv (wd c)).toArray)∧Below w.heap.size w w':=by
 have run:=Ve.FR Ve.R0 (gi c)
 rw [wX h,Jj] at run
 exact aH Ve.nG mixed Ve.fM Ve.nJ Tryz.func26 (by kernel_rfl) run (fun p hp=>by cases hp) (by rw [List.all_cons,gG];rfl) (.inl (gG _)) w hw
theorem yC {x:List Int} (h:x.length=80) (w:World) (hw:Glo Ve.MA w):Calls Tryz.prog 37 #[.agg (bv x).toArray] w fun e w'=>e = .returned (.tuple #[.agg (bv (pG x)).toArray,.agg (bv (wd (pC x))).toArray,.agg (bv (pT x)).toArray])∧Below w.heap.size w w':=by
 have run:=Ve.EZ Ve.R0 (gi x)
 rw [wX h,Ji,Jv,JB,Jj] at run
 exact aH Ve.nG mixed Ve.fM Ve.nJ Tryz.func37 (by kernel_rfl) run (fun p hp=>by cases hp) (by rw [List.all_cons,gG];rfl) (.inl (p5 _ _ _)) w hw
theorem LF {s:List Int} (hs:L32 s) (w:World) (hw:Glo Ve.MA w):Calls Tryz.prog 17 #[.agg (bv s).toArray] w fun e w'=>e = .returned (.tuple #[.agg (bv (Ve.sk s)).toArray,.agg (bv (Ve.pf s)).toArray])∧Below w.heap.size w w':=by
 have:=Ve.xn (le s) (cU hs) w hw
 rw [Js hs,←cH hs] at this
 exact this
theorem Ls (a b c d e y:List Int) (hy:y.length=16):chw a b c d e=wd y↔chl a b c d e=y:=by
 unfold chw wd
 constructor
 ·exact fun h=>List.append_inj_left' h rfl
 ·exact fun h=>by rw [h]
end Go.Proofs.YtajehiidpecknaaGreatDoor.Wi
namespace Go.Proofs.YtajehiidpecknaaGreatDoor.Wi
open Go Go.RowKit
set_option maxRecDepth 100000
def gΩ (w0:World):Nat→(Nat→Value)→World→Prop:=fun _ _ W=>Below w0.heap.size w0 W
def tx (x p:List Int) (c:Int):List (List Int):=[[3,1],x,p,[c,0]]
def tb (x p:List Int) (c:Int):List Int:=(h5 (joA (tx x p c))).take 32
def tg (x p:List Int) (c:Int):Bool:=decide (rk (tb x p c)=0 ∧ ¬ Cl (tb x p c)=bi 1)
def inp (x p:List Int):Nat→Option (List Int)
 | 0=>none
 | n+1=>if tg x p (255 - (n:Int))=true then some (Cl (tb x p (255 - (n:Int)))) else inp x p n
def inq (x p:List Int):Option (List Int):=inp x p 256
def gU (o:Option (List Int)):List Int:=o.getD (List.replicate 32 0)
def mA (o:Option (List Int)):Int:=if o.isSome then 0 else 4
theorem L32.tb (x p:List Int) (c:Int):L32 (tb x p c):=⟨by rw [Wi.tb,List.length_take,bq];rfl,fun z hz=>dS _ z (List.mem_of_mem_take hz)⟩
theorem kc (x p:List Int) : ∀ n,L32 (gU (inp x p n))
 | 0=>⟨by rfl,fun z hz=>by have:=(List.mem_replicate.1 hz).2;omega⟩
 | n+1=>by
  unfold inp
  split
  ·exact L32.cl _
  ·exact kc x p n
theorem Ev {x p:List Int} (hx:L32 x) (hp:Byt p) (c:Int) (h0:0≤c) (h1:c≤255) : ∀ m ∈ tx x p c,Byt m:=fun m hm=>by
 simp only [tx,List.mem_cons,List.not_mem_nil,or_false] at hm
 rcases hm with rfl | rfl | rfl | rfl
 ·intro z hz;simp only [List.mem_cons,List.not_mem_nil,or_false] at hz;omega
 ·exact hx.byt
 ·exact hp
 ·intro z hz;simp only [List.mem_cons,List.not_mem_nil,or_false] at hz;omega
theorem De {x p:List Int} (hx:L32 x) (c:Int):(joA (tx x p c)).length=36+p.length:=by
 show (((([] ++ [3,1]) ++ x) ++ p) ++ [c,0]).length=_
 simp only [List.length_append,hx.len,List.length_cons,List.length_nil];omega
theorem JX {x p:List Int} (hx:L32 x) (c d:Int):(joA (tx x p c)).set (34+p.length) d=joA (tx x p d):=by
 show (((([] ++ [3,1]) ++ x) ++ p) ++ [c,0]).set _ d=((([] ++ [3,1]) ++ x) ++ p) ++ [d,0]
 rw [List.set_append_right _ _ (by simp only [List.length_append,hx.len,List.length_cons,List.length_nil];omega)]
 congr 1
 simp only [List.length_append,hx.len,List.length_cons,List.length_nil]
 rw [show 34+p.length - (0+(0+1+1)+32+p.length)=0 by omega];rfl
theorem L32.one:L32 (bi 1):=dq 1
theorem aK {w:World} {b o n:Nat} {x:List Int} (hl:x.length=n) (h:w.there b o n):w.there b o (bv x).toArray.size:=by
 rw [show (bv x).toArray.size=n by rw [List.size_toArray,ae,hl]];exact h
theorem iJ {t:TypeId} {n:Nat} {x:List Int} (hl:x.length=n) (h:(Tryz.prog.info? t).map (·.size)=some n):(Tryz.prog.info? t).map (·.size)=some (bv x).length:=by rw [ae,hl];exact h
theorem aC {t:TypeId} {n:Nat} {x:List Int} (hl:x.length=n) (h:(Tryz.prog.info? t).map (·.size)=some n):(Tryz.prog.info? t).map (·.size)=some (bv x).toArray.size:=iJ hl h
theorem bK (w:World) {Z:Array Value} {t:TypeId} {n:Nat} {x:List Int} (hl:x.length=n) (hz:Z.size=n):(w.alloc (.cells Z t)).there w.heap.size 0 (bv x).toArray.size:=aK hl (bM w hz.symm)
theorem oc (x p:List Int) {k m:Nat} (h:k+(m+1)=256):inp x p (m+1)=if tg x p (k:Int)=true then some (Cl (tb x p (k:Int))) else inp x p m:=by
 show (if tg x p (255 - (m:Int))=true then some (Cl (tb x p (255 - (m:Int)))) else inp x p m)=_
 rw [show (255:Int) - (m:Int)=(k:Int) by omega]
theorem bm {P:Program} {ops:Array Oper} {rest:List Oper} {o:Oper} {a:Act} {w:World} {Q:Exit→Act→World→Prop} (t:TypeId) (ho:o.op = .build t #[]) (hgd:o.guard=none) (cells:Array Value)
  (hr:(Instr.build t #[]).run P w = .ok (.agg cells) w) (h:wpList P ops Q rest (a.put o.dst (.agg cells)) w):wpList P ops Q (o :: rest) a w:=by
 refine wpList_plain hgd fun K hK => ?_
 unfold Oper.wp execOp
 simp only [ho,Sem.run_bind,List.map_toArray,List.map_nil,hr,Result.andThen_ok,Sem.run_pure]
 exact hK _ _ h
def po80f (ek:Int) (C:List Int) (N:Nat):Nat→Value
 | 0 => .int .i64 ek
 | 1 => .bool false
 | 2 => .bool false
 | 3=>undef
 | 4=>undef
 | 5=>undef
 | 6 => .bool false
 | _=>undef
def Jz (ek:Int) (C:List Int) (N:Nat):Nat→Value
 | 0 => .int .i64 0
 | 1 => .bool true
 | 2 => .bool true
 | 3 => .agg (bv C).toArray
 | 4 => .agg (bv (bi 1)).toArray
 | 5 => .bool (!decide (C=bi 1))
 | 6 => .bool (!decide (C=bi 1))
 | _=>undef
set_option maxHeartbeats 4000000 in
theorem l9 (x p:List Int) (hx:L32 x) (hp:Byt p) (hl:p.length≤140737488353000) (v:Value) (w:World) (hv:Sl w v p) (hg:Glo Ve.MA w) :
  Calls Tryz.prog 19 #[.agg (bv x).toArray,v] w fun e w'=>e = .returned (.tuple #[.agg (bv (gU (inq x p))).toArray,.int .i64 (mA (inq x p))])∧Below w.heap.size w w':=by
 have HX:Hid (L32 x):=hx
 have HP:Hid (Byt p):=hp
 have HPL:Hid (p.length≤140737488353000):=hl
 have ra:=eF w (bv x) 22 (0,0)
 have hz:=bG
 obtain ⟨Z,hZ⟩ : ∃ Z,(bv (List.replicate 32 0)).toArray=Z:=⟨_,rfl⟩
 have hZs:Z.size=32:=by rw [←hZ];simp [bv]
 have HZS:Hid (Z.size=32):=hZs
 have HZE:Hid ((bv z32).toArray=Z):=hZ
 rw [hZ] at hz
 have hz6:=dZ
 obtain ⟨Z6,hZ6⟩ : ∃ Z,(bv (List.replicate 64 0)).toArray=Z:=⟨_,rfl⟩
 have hZs6:Z6.size=64:=by rw [←hZ6];simp [bv]
 have HZ6:Hid (Z6.size=64):=hZs6
 rw [hZ6] at hz6
 obtain ⟨A,hA⟩ : ∃ A,(bv x).toArray=A:=⟨_,rfl⟩
 rw [hA] at ra ⊢
 obtain ⟨U,hU⟩ : ∃ U,(w.alloc (.cells A 22)).alloc (.cells Z 22)=U:=⟨_,rfl⟩
 have sU:U.heap.size=w.heap.size+2:=by rw [←hU];simp
 have bU:Below w.heap.size w U:=by rw [←hU];exact ((Below.refl _ w).alloc (Nat.le_refl _) _).alloc (by simp) _
 have rp:U.rangeAt w.heap.size 0 (bv x):=by rw [←hU];exact aa ra ((Below.refl _ _).alloc (Nat.le_refl _) _) (by simp)
 have rr:U.heap[w.heap.size+1]? = some (.cells Z 22 (0,0)):=by
  rw [←hU];show ((w.heap.push _).push _)[w.heap.size+1]? = _;rw [Array.getElem?_push,if_pos (by simp)]
 have thr:U.there (w.heap.size+1) 0 32:=aO rr 0 32 (by rw [HZS.out];exact Nat.le_refl _)
 have BU:Hid (Below w.heap.size w U):=bU
 have HVU:Hid (Sl U v p):=hv.below bU (Nat.le_refl _)
 have HGU:Hid (Glo Ve.MA U):=hg.below bU
 obtain ⟨D,hD⟩ : ∃ D,w.heap.size=D:=⟨_,rfl⟩
 have HD:Hid (w.heap.size=D):=hD
 rw [hD] at sU rp thr
 have SU:Hid (U.heap.size=D+2):=sU
 have THR:Hid (U.there (D+1) 0 32):=thr
 have RX:Hid (U.rangeAt D 0 (bv x)):=rp
 have LTR:Hid (D+1<U.heap.size):=by show _<_;omega
 have LX:Hid (D<U.heap.size):=by show _<_;omega
 obtain ⟨R,hR⟩ : ∃ R,inq x p=R:=⟨_,rfl⟩
 have HR:Hid (inp x p 256=R):=hR
 rw [hR]
 have HN4:Hid ((tx x p 0).length≤1000):=by show 4≤1000;omega
 have HLN:Hid (∀ c,(joA (tx x p c)).length=36+p.length):=fun c=>De hx c
 obtain ⟨a0,c0,hv0,-,-⟩:=id HVU.out
 obtain ⟨n0,hn0⟩ : ∃ n,p.length=n:=⟨_,rfl⟩
 have HNP:Hid (p.length=n0):=hn0
 rw [hn0] at hv0
 subst hv0
 clear ra sU bU rp rr thr hA hx hp hv hg hl hZ hZs hn0 hR hZ6 hZs6
 go_enter Tryz.func19,Tryz.ntmps19
 go_upto_region 1 with (fail)
 try rw [hU]
 try rw [hD]
 clear hU hD
 have S3:Hid (Sl U (.slice (some ⟨D,0,none⟩) 32 32) x):=bo HX.out RX.out LX.out
 obtain ⟨U1,hU1⟩ : ∃ W,U.alloc (.cells #[.int .u8 3,.int .u8 1] 5)=W:=⟨_,rfl⟩
 have bu1:Below U.heap.size U U1:=by rw [←hU1];exact (Below.refl _ U).alloc (Nat.le_refl _) _
 have sl1:Sl U1 (.slice (some ⟨U.heap.size,0,none⟩) 2 2) [3,1]:=by rw [←hU1];exact eK U [3,1] _ 2 rfl
 obtain ⟨U2,hU2⟩ : ∃ W,U1.alloc (.cells #[.int .u8 0,.int .u8 0] 5)=W:=⟨_,rfl⟩
 have bu2:Below U1.heap.size U1 U2:=by rw [←hU2];exact (Below.refl _ U1).alloc (Nat.le_refl _) _
 have sl2:Sl U2 (.slice (some ⟨U1.heap.size,0,none⟩) 2 2) [0,0]:=by rw [←hU2];exact eK U1 [0,0] _ 2 rfl
 have BU2:Hid (Below U.heap.size U U2):=bu1.trans (bu2.mono bu1.size)
 obtain ⟨e1,he1⟩ : ∃ n,U.heap.size=n:=⟨_,rfl⟩
 obtain ⟨e2,he2⟩ : ∃ n,U1.heap.size=n:=⟨_,rfl⟩
 have HLL:Hid (LL (U2.alloc (.cells #[.slice (some ⟨e1,0,none⟩) 2 2,.slice (some ⟨D,0,none⟩) 32 32,.slice a0 n0 c0,.slice (some ⟨e2,0,none⟩) 2 2] 23)) (.slice (some ⟨U2.heap.size,0,none⟩) 4 4) (tx x p 0)):=by
  refine lW [.slice (some ⟨e1,0,none⟩) 2 2,.slice (some ⟨D,0,none⟩) 32 32,.slice a0 n0 c0,.slice (some ⟨e2,0,none⟩) 2 2] _ _ 4 rfl rfl (fun i u hu => ?_)
  match i,hu with
  | 0,hu=>cases hu;rw [←he1];exact sl1.below bu2 (Nat.le_refl _)
  | 1,hu=>cases hu;exact S3.out.below BU2.out (Nat.le_refl _)
  | 2,hu=>cases hu;exact HVU.out.below BU2.out (Nat.le_refl _)
  | 3,hu=>cases hu;rw [←he2];exact sl2
  | n+4,hu=>simp at hu
 have BLL:Hid (Below U.heap.size U (U2.alloc (.cells #[.slice (some ⟨e1,0,none⟩) 2 2,.slice (some ⟨D,0,none⟩) 32 32,.slice a0 n0 c0,.slice (some ⟨e2,0,none⟩) 2 2] 23))):=BU2.out.alloc BU2.out.size _
 clear sl1 sl2 bu1 bu2
 go_upto_region 2 with (go_at_call 23;refine (fg (tx x p 0) _ rfl _ _ HLL.out (by rw [HLN.out];have:=HPL.out;omega) HN4.out).mono ?_;rintro e W1 ⟨v1,rfl,g1,g2⟩;have O1:Hid (Ow U.heap.size W1 v1 (joA (tx x p 0))):=⟨g1.1,by rcases g1.2 with h | ⟨g,cap,cur,q1,q2,q3⟩;exact .inl h;exact .inr ⟨g,cap,cur,q1,Nat.le_trans BLL.out.size q2,q3⟩⟩;have B1:Hid (Below U.heap.size U W1):=Below.tr' BLL.out g2;clear g1 g2)
 obtain ⟨g,cp,hvg,hgb⟩ : ∃ g cp,v1 = .slice (some ⟨g,0,none⟩) (36+n0) cp∧U.heap.size≤g:=by
  have hL:=HLN.out 0
  rw [HNP.out] at hL
  rcases O1.out.2 with ⟨h1,h2⟩ | ⟨g,cap,cur,q1,q2,q3⟩
  ·rw [hL] at h2;omega
  ·exact ⟨g,cap,by rw [q1,hL],q2⟩
 subst hvg
 obtain ⟨n1,hn1⟩ : ∃ n,36+n0=n:=⟨_,rfl⟩
 rw [hn1] at O1
 have HN1:Hid (36+n0=n1):=hn1
 rw [hn1]
 have HGB:Hid (U.heap.size≤g):=hgb
 clear hn1 hgb HLL BLL S3
 try clear hU1 hU2 he1 he2 BU2
 go_wp2_with fail
 go_loopw [17] (fun i wr => ∃ k:Nat,k≤256∧i = .int .i64 (k:Int)∧(∃ z,Ow U.heap.size wr (.slice (some ⟨g,0,none⟩) n1 cp) (joA (tx x p z)))∧Below U.heap.size U wr ∧ ∃ n,k+n=256∧inp x p n=R) (fun i _=>256 - (intOf i).toNat)
 case atStart=>exact ⟨0,by omega,rfl,⟨0,O1.out⟩,B1.out,256,rfl,HR.out⟩
 case round =>
  obtain ⟨k,hk,rfl,⟨z,ho⟩,hb,n,hn,hi⟩:=hrel
  have HNK:Hid (k+n=256):=hn
  have HO:Hid (Ow U.heap.size wr (.slice (some ⟨g,0,none⟩) n1 cp) (joA (tx x p z))):=ho
  have HB:Hid (Below U.heap.size U wr):=hb
  have HI:Hid (inp x p n=R):=hi
  clear ho hb hi hn HR
  by_cases hlt:k<256
  ·obtain ⟨n2,hn2⟩ : ∃ n,34+n0=n:=⟨_,rfl⟩
   have HN2:Hid (34+n0=n2):=hn2
   have hcell:=HO.out.cell (j:=n2) (by rw [HLN.out,HNP.out];omega)
   have e12:(n1:Int) - 2=(n2:Int):=by have:=HN1.out;omega
   have hn21:n2<n1:=by have:=HN1.out;omega
   have hwr:wrap64 (n2:Int)=(n2:Int):=by have:=HPL.out;have:=HNP.out;unfold wrap64;omega
   obtain ⟨y,hy⟩ : ∃ y,gi (joA (tx x p z)) n2=y:=⟨_,rfl⟩
   rw [hy] at hcell
   obtain ⟨cl,cf⟩:=hcell
   obtain ⟨J,hJ⟩ : ∃ J,joA (tx x p (k:Int))=J:=⟨_,rfl⟩
   have HJB:Hid (Byt J):=by rw [←hJ];exact iG (Ev HX.out HP.out _ (by omega) (by omega)) _
   have HJL:Hid (J.length≤140737488354000):=by rw [←hJ,HLN.out];have:=HPL.out;show _≤_;omega
   obtain ⟨G,hG⟩ : ∃ G,h5 J=G:=⟨_,rfl⟩
   have HGH:Hid (h5 J=G):=hG
   have HGL:Hid (G.length=64∧Byt G):=by rw [←hG];exact ⟨bq _,dS _⟩
   obtain ⟨b,hbt⟩ : ∃ b,G.take 32=b:=⟨_,rfl⟩
   have htb:tb x p (k:Int)=b:=by unfold tb;rw [hJ,hG,hbt]
   have HBT:Hid (G.take 32=b):=hbt
   have HBL:Hid (L32 b):=by rw [←htb];exact L32.tb _ _ _
   obtain ⟨ek,hek⟩ : ∃ z,rk b=z:=⟨_,rfl⟩
   obtain ⟨C,hC⟩ : ∃ z,Cl b=z:=⟨_,rfl⟩
   have HCL:Hid (∀ W,Glo Ve.MA W→Calls Tryz.prog 35 #[.agg (bv b).toArray] W fun e w'=>e = .returned (.tuple #[.agg (bv C).toArray,.int .i64 ek])∧Below W.heap.size W w'):=fun W hw=>by rw [←hek,←hC];exact tR HBL.out W (Ve.gp hw)
   have HC:Hid (L32 C):=by rw [←hC];exact L32.cl _
   have HTG:Hid (∀ m,k+(m+1)=256→inp x p (m+1)=if (ek=0 ∧ ¬ C=bi 1) then some C else inp x p m):=fun m hm=>by
    rw [oc x p hm,tg,htb,hek,hC]
    by_cases q:ek=0 ∧ ¬ C=bi 1
    ·rw [if_pos q,if_pos (decide_eq_true q)]
    ·rw [if_neg q,if_neg (by rw [decide_eq_false q];decide)]
   obtain ⟨W2,hW2⟩ : ∃ W,wr.setCell ⟨g,n2,none⟩ (.int .u8 (k:Int))=W:=⟨_,rfl⟩
   have ho2:=(HO.out.set n2 (k:Int)).1
   rw [show (joA (tx x p z)).set n2 (k:Int)=J by rw [←hJ,←JX HX.out z (k:Int),HNP.out,HN2.out],hW2] at ho2
   have O2:Hid (Ow U.heap.size W2 (.slice (some ⟨g,0,none⟩) n1 cp) J):=ho2
   have B2:Hid (Below U.heap.size U W2):=by rw [←hW2];exact HB.out.setCell HGB.out _
   have HG2:Hid (Glo Ve.MA W2):=aE HGU.out B2.out
   have HJE:Hid (J=joA (tx x p (k:Int))):=hJ.symm
   clear hn2 hy hJ hG hbt htb hek hC ho2
   go_upto_region 6 with (fail)
   try rw [hW2]
   clear cl cf hwr e12 hn21
   go_upto_region 7 with (first
    | (go_at_call 22;refine (gh J G _ HGH.out HJL.out W2 (Ve.gp HG2.out).tb HJB.out O2.out.sq).mono ?_;rintro e W3 ⟨rfl,g1⟩;have BW3:Hid (Below W2.heap.size W2 W3):=g1;clear g1)
    | (refine wpList_store_mid rfl 29 (.tmp 8) (.tmp 28) rfl W3.heap.size 0 (bv G).toArray rfl rfl (bK W3 (HGL.out.1) HZ6.out) (aC (HGL.out.1) aR) (ar _) ?_;simp only [YN]))
   obtain ⟨e8,he8⟩ : ∃ n,W3.heap.size=n:=⟨_,rfl⟩
   obtain ⟨W4,hW4⟩ : ∃ W,(W3.alloc (.cells Z6 29)).setCells W3.heap.size 0 (bv G)=W:=⟨_,rfl⟩
   obtain ⟨l1,l2,l3⟩:=aS (by rw [ae,HGL.out.1,HZ6.out]) (by rw [ae,HGL.out.1];omega) hW4
   have BW4:Hid (Below W3.heap.size W3 W4):=l2
   have R8:Hid (W4.rangeAt e8 0 (bv G)):=by rw [←he8];exact l1
   have L8:Hid (e8<W4.heap.size):=by rw [←he8];exact l3
   try rw [hW4]
   try rw [he8]
   clear l1 l2 l3 hW4 he8
   have BU4:Hid (Below U.heap.size U W4):=Below.tr' (Below.tr' B2.out BW3.out) BW4.out
   have HG4:Hid (Glo Ve.MA W4):=aE HGU.out BU4.out
   have ha1:(Instr.arrayAt 22 (.slice (some ⟨e8,0,none⟩) 32 64)).run Tryz.prog W4 = .ok (.pointer (some ⟨e8,0,none⟩)) W4:=by rfl
   have R8b:Hid (W4.rangeAt e8 0 (bv b)):=by have:=dN (n:=32) R8.out;rw [HBT.out] at this;exact this
   go_upto_region 8 with (first
    | (refine wpList_load_mid rfl 22 (.tmp 31) rfl (e8) 0 rfl (bv b) _ R8b.out Tryz.underlying22 rfl (by rw [ae,HBL.out.len];exact aF) ?_)
    | (go_at_call 35;refine (HCL.out W4 HG4.out).mono ?_;rintro e W5 ⟨rfl,g1⟩;have BW5:Hid (Below W4.heap.size W4 W5):=g1;clear g1)
    | (refine wpList_store_mid rfl 22 (.tmp 9) (.tmp 34) rfl W5.heap.size 0 (bv C).toArray rfl rfl (bK W5 (HC.out.len) HZS.out) (aC (HC.out.len) aF) (ar _) ?_;simp only [YN]))
   obtain ⟨N,hN⟩ : ∃ n,W5.heap.size=n:=⟨_,rfl⟩
   obtain ⟨w3,hw3⟩ : ∃ W,(W5.alloc (.cells Z 22)).setCells W5.heap.size 0 (bv C)=W:=⟨_,rfl⟩
   obtain ⟨l1,l2,l3⟩:=aS (by rw [ae,HC.out.len,HZS.out]) (by rw [ae,HC.out.len];omega) hw3
   have Bw3:Hid (Below W5.heap.size W5 w3):=l2
   have R9:Hid (w3.rangeAt N 0 (bv C)):=by rw [←hN];exact l1
   have L9:Hid (N<w3.heap.size):=by rw [←hN];exact l3
   try rw [hw3]
   try rw [hN]
   clear l1 l2 l3 hw3 hN
   have HG3:Hid (Glo Ve.MA w3):=aE (aE HG4.out BW5.out) Bw3.out
   have BU3:Hid (Below U.heap.size U w3):=Below.tr' (Below.tr' BU4.out BW5.out) Bw3.out
   have O3:Hid (Ow U.heap.size w3 (.slice (some ⟨g,0,none⟩) n1 cp) J):=O2.out.below (Below.tr' (Below.tr' (Below.tr' BW3.out BW4.out) BW5.out) Bw3.out)
   clear ha1 R8b R8 L8 BW3 BW4 BW5 Bw3 HG4
   by_cases h0:ek=0
   ·subst h0
    refine RU.wp_rgn' [] (Jz 0 C N) (fun _=>0) (gΩ w3) (by kernel_rfl) (by kernel_rfl) (show Below w3.heap.size w3 _ from (Below.refl _ _).drew) ?_ ?_
    ·refine ⟨?_,?_,?_,?_,?_,?_,?_,trivial⟩
     ·refine RU.ObT.pure rfl rfl rfl (fun a V hf hp ev he hc W => ?_)
      have q10:ev (.tmp 10) = .int .i64 0:=(he (.tmp 10)).trans (hf 10 rfl)
      simp only [qF,qD,qE,execOp,YO,YP];rw [q10]
      first | (go_simp;done) | (go_simp;rfl) | rfl
     ·refine RU.ObT.pure rfl rfl rfl (fun a V hf hp ev he hc W => ?_)
      have q36:ev (.tmp 36) = .int .i64 0:=(he (.tmp 36)).trans (hp 0 36 rfl)
      simp only [qF,qD,qE,execOp,YO,YP];rw [q36]
      try simp only [hc]
      first | (go_simp;done) | (go_simp;rfl) | rfl
     ·refine RU.ObT.pure rfl rfl rfl (fun a V hf hp ev he hc W => ?_)
      have q37:ev (.tmp 37) = .bool true:=(he (.tmp 37)).trans (hp 1 37 rfl)
      simp only [qF,qD,qE,execOp,YO,YP];rw [q37]
      first | (go_simp;done) | (go_simp;rfl) | rfl
     ·refine RU.ObT.silent rfl (fun a W k0 V hO hf hp hk => ?_)
      have hg:a.eval (.tmp 38) = .bool true:=hp 2 38 rfl
      have hO':Below w3.heap.size w3 W:=hO
      have q9:a.eval (.tmp 9) = .pointer (some ⟨N,0,none⟩):=hf 9 rfl
      exact RU.ob_op rfl (RU.wanted_some rfl rfl rfl hg) (wp_load_mid 22 (.tmp 9) rfl (N) (0) q9 (bv C) _ (aa R9.out hO' L9.out) Tryz.underlying22 rfl (aD HC.out) ⟨rfl,hO⟩)
     ·refine RU.ObT.silent rfl (fun a W k0 V hO hf hp hk => ?_)
      have hg:a.eval (.tmp 38) = .bool true:=hp 2 38 rfl
      have hO':Below w3.heap.size w3 W:=hO
      refine RU.ob_call (g:=54) (args := #[]) rfl (RU.wanted_some rfl rfl rfl hg) (fun ev he hc => ?_) ((Lc W (Ve.gp (aE HG3.out hO'))).mono ?_)
      ·have hfn:=he (.func 54)
       simp only [qF,qD,qE,execOp,YO,YP]
       simp only [resolve,invoke,Sem.run_bind,Sem.run_pure,Result.andThen_ok,List.map_toArray,List.map_cons,List.map_nil,hfn,Act.eval,hc]
       rfl
      ·rintro e' W2 ⟨rfl,hb2⟩
       exact ⟨_,rfl,rfl,(hO'.trans (hb2.mono hO'.size):Below w3.heap.size w3 W2)⟩
     ·refine RU.ObT.silent rfl (fun a W k0 V hO hf hp hk => ?_)
      have hg:a.eval (.tmp 38) = .bool true:=hp 2 38 rfl
      refine RU.ob_val rfl (RU.wanted_some rfl rfl rfl hg) (fun ev he hc => ?_) ⟨rfl,hO⟩
      have q39:ev (.tmp 39) = .agg (bv C).toArray:=(he (.tmp 39)).trans (hp 3 39 rfl)
      have q40:ev (.tmp 40) = .agg (bv (bi 1)).toArray:=(he (.tmp 40)).trans (hp 4 40 rfl)
      simp only [qF,qD,qE,execOp,YO,YP];rw [q39,q40]
      simp only [Sem.run_bind,xC,yf HC.out L32.one,Result.andThen_ok,Sem.run_pure];rfl
     ·refine RU.ObT.pure rfl rfl rfl (fun a V hf hp ev he hc W => ?_)
      have q38:ev (.tmp 38) = .bool true:=(he (.tmp 38)).trans (hp 2 38 rfl)
      have q41:ev (.tmp 41) = .bool (!decide (C=bi 1)):=(he (.tmp 41)).trans (hp 5 41 rfl)
      simp only [qF,qD,qE,execOp,YO,YP];rw [q38,q41]
      try simp only [hc]
      first | (go_simp;done) | (go_simp;rfl) | rfl
    intro w4 Vw4 hOw4
    have Bw4:Hid (Below w3.heap.size w3 w4):=hOw4
    clear hOw4
    simp only [RU.lay,RU.val,RU.at',Jz,Act.put]
    simp only [qA,qB,qC]
    have BU5:Hid (Below U.heap.size U w4):=Below.tr' BU3.out Bw4.out
    by_cases hq:C=bi 1
    ·rw [decide_eq_true hq]
     have hn0:=HNK.out
     obtain ⟨m,rfl⟩ : ∃ m,n=m+1:=⟨n - 1,by omega⟩
     have hI:=HI.out
     rw [HTG.out m hn0,if_neg (fun h=>h.2 hq)] at hI
     have HI2:Hid (inp x p m=R):=hI
     have HN3:Hid (k+1+m=256):=by show _=_;omega
     have O5:Hid (Ow U.heap.size w4 (.slice (some ⟨g,0,none⟩) n1 cp) J):=O3.out.below Bw4.out
     have HJX:Hid (J=joA (tx x p (k:Int))):=HJE.out
     clear hq hn0 hI HI HTG HNK
     go_wp2_with fail
     exact ⟨⟨k+1,by omega,by go_num,⟨(k:Int),by rw [←HJX.out];exact O5.out⟩,BU5.out,m,HN3.out,HI2.out⟩,by simp [intOf];omega⟩
    ·rw [decide_eq_false hq]
     have hn0:=HNK.out
     obtain ⟨m,rfl⟩ : ∃ m,n=m+1:=⟨n - 1,by omega⟩
     have hI:=HI.out
     rw [HTG.out m hn0,if_pos ⟨rfl,hq⟩] at hI
     have HI2:Hid (R=some C):=hI.symm
     have R9d:Hid (w4.rangeAt N 0 (bv C)):=aa R9.out Bw4.out L9.out
     have THd:=an THR.out BU5.out LTR.out
     clear hq hn0 hI HI HTG HNK
     go_wp2_with (first
      | (refine wpList_load_mid rfl 22 (.tmp 9) rfl (N) 0 rfl (bv C) _ R9d.out Tryz.underlying22 rfl (by rw [ae,HC.out.len];exact aF) ?_)
      | (refine wpList_store_mid rfl 22 (.tmp 4) (.tmp 43) rfl (D+1) 0 (bv C).toArray rfl rfl (aK (HC.out.len) (THd)) (aC (HC.out.len) aF) (ar _) ?_;simp only [YN]))
     have qq:(w4.setCells (D+1) 0 (bv C)).rangeAt (D+1) 0 (bv C):=World.rangeAt_setCells_same _ _ _ _ (by rw [ae,HC.out.len];exact THd)
     have hbl:Below w.heap.size w (w4.setCells (D+1) 0 (bv C)):=af (by rw [HD.out];omega) _ _ (BU.out.trans (BU5.out.mono BU.out.size))
     try simp only [Exit.inBlock,Exit.then]
     refine bodyPost_ret (v := .tuple #[.agg (bv C).toArray,.int .i64 0]) ?_ rfl ⟨by rw [HI2.out];rfl,hbl⟩
     exact au Tryz.results19 _ _ (D+1) 0 (bv C) _ _ rfl rfl qq Tryz.underlying22 rfl (by rw [ae,HC.out.len];exact aF)
   ·refine RU.wp_rgn' [] (po80f ek C N) (fun _=>0) (gΩ w3) (by kernel_rfl) (by kernel_rfl) (show Below w3.heap.size w3 _ from (Below.refl _ _).drew) ?_ ?_
    ·refine ⟨?_,?_,?_,?_,?_,?_,?_,trivial⟩
     ·refine RU.ObT.pure rfl rfl rfl (fun a V hf hp ev he hc W => ?_)
      have q10:ev (.tmp 10) = .int .i64 ek:=(he (.tmp 10)).trans (hf 10 rfl)
      simp only [qF,qD,qE,execOp,YO,YP];rw [q10]
      first | (go_simp;done) | (go_simp;rfl) | rfl
     ·refine RU.ObT.pure rfl rfl rfl (fun a V hf hp ev he hc W => ?_)
      have q36:ev (.tmp 36) = .int .i64 ek:=(he (.tmp 36)).trans (hp 0 36 rfl)
      simp only [qF,qD,qE,execOp,YO,YP];rw [q36]
      try simp only [hc]
      go_simp;rw [show (ek == 0)=false from beq_eq_false_iff_ne.2 h0];rfl
     ·refine RU.ObT.pure rfl rfl rfl (fun a V hf hp ev he hc W => ?_)
      have q37:ev (.tmp 37) = .bool false:=(he (.tmp 37)).trans (hp 1 37 rfl)
      simp only [qF,qD,qE,execOp,YO,YP];rw [q37]
      first | (go_simp;done) | (go_simp;rfl) | rfl
     ·exact RU.ObT.skip (g:=2) (d:=38) rfl rfl rfl rfl rfl rfl (fun U h=>by cases h) rfl
     ·exact RU.ObT.skip (g:=2) (d:=38) rfl rfl rfl rfl rfl rfl (fun U h=>by cases h) rfl
     ·exact RU.ObT.skip (g:=2) (d:=38) rfl rfl rfl rfl rfl rfl (fun U h=>by cases h) rfl
     ·refine RU.ObT.pure rfl rfl rfl (fun a V hf hp ev he hc W => ?_)
      have q38:ev (.tmp 38) = .bool false:=(he (.tmp 38)).trans (hp 2 38 rfl)
      have q41:ev (.tmp 41)=undef:=(he (.tmp 41)).trans (hp 5 41 rfl)
      simp only [qF,qD,qE,execOp,YO,YP];rw [q38,q41]
      try simp only [hc]
      first | (go_simp;done) | (go_simp;rfl) | rfl
    intro w4 Vw4 hOw4
    have Bw4:Hid (Below w3.heap.size w3 w4):=hOw4
    clear hOw4
    simp only [RU.lay,RU.val,RU.at',po80f,Act.put]
    simp only [qA,qB,qC]
    have BU5:Hid (Below U.heap.size U w4):=Below.tr' BU3.out Bw4.out
    have hn0:=HNK.out
    obtain ⟨m,rfl⟩ : ∃ m,n=m+1:=⟨n - 1,by omega⟩
    have hI:=HI.out
    rw [HTG.out m hn0,if_neg (fun h=>h0 h.1)] at hI
    have HI2:Hid (inp x p m=R):=hI
    have HN3:Hid (k+1+m=256):=by show _=_;omega
    have O5:Hid (Ow U.heap.size w4 (.slice (some ⟨g,0,none⟩) n1 cp) J):=O3.out.below Bw4.out
    clear h0 hn0 hI HI HTG HNK
    go_wp2_with fail
    exact ⟨⟨k+1,by omega,by go_num,⟨(k:Int),by rw [HJE.out] at O5;exact O5.out⟩,BU5.out,m,HN3.out,HI2.out⟩,by simp [intOf];omega⟩
  ·obtain rfl:k=256:=by omega
   have HI2:Hid (R=none):=by
    have h1:=HNK.out
    obtain rfl:n=0:=by omega
    exact HI.out.symm
   have HBZ:Hid (∀ W:World,(Instr.build 22 #[]).run Tryz.prog W = .ok (.agg (bv z32).toArray) W):=vg
   have THd:=an THR.out HB.out LTR.out
   obtain ⟨E0,hE0⟩ : ∃ z,z32=z:=⟨_,rfl⟩
   have HE:Hid (L32 E0):=by rw [←hE0];exact cr
   have HEE:Hid (z32=E0):=hE0
   rw [hE0] at HBZ
   clear HI HNK hlt hk hE0
   go_wp2_with (first
    | (refine bm 22 rfl rfl _ (HBZ.out _) ?_)
    | (refine wpList_store_mid rfl 22 (.tmp 4) (.tmp 45) rfl (D+1) 0 (bv E0).toArray rfl rfl (aK (HE.out.len) (THd)) (aC (HE.out.len) aF) (ar _) ?_;simp only [YN]))
   have qq:(wr.setCells (D+1) 0 (bv E0)).rangeAt (D+1) 0 (bv E0):=World.rangeAt_setCells_same _ _ _ _ (by rw [ae,HE.out.len];exact THd)
   have hbl:Below w.heap.size w (wr.setCells (D+1) 0 (bv E0)):=af (by rw [HD.out];omega) _ _ (BU.out.trans (HB.out.mono BU.out.size))
   try simp only [Exit.inBlock,Exit.then]
   refine bodyPost_ret (v := .tuple #[.agg (bv E0).toArray,.int .i64 4]) ?_ rfl ⟨by rw [HI2.out,←HEE.out];rfl,hbl⟩
   exact au Tryz.results19 _ _ (D+1) 0 (bv E0) _ _ rfl rfl qq Tryz.underlying22 rfl (by rw [ae,HE.out.len];exact aF)
end Go.Proofs.YtajehiidpecknaaGreatDoor.Wi
