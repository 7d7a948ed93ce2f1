import Derived.Test.YtajehiidpecknaaGreatDoorQ5C
import Derived.Deep.RegionWith
import Derived.Test.YtajehiidpecknaaGreatDoorRgnG
import Derived.Lib.Mul64
import Derived.Laws.Externs
import Derived.Laws.Pointers
import Derived.Laws.Bits64b
set_option linter.all false
namespace Go.Proofs.YtajehiidpecknaaGreatDoor.Sh
open Go Go.RowKit
theorem dW {w:World} {g:Nat} {cs cs':Array Value} {t:TypeId} (hg:w.heap[g]? = some (.cells cs t (0,0))) (o:Nat) (vs:List Value) (hn:o+vs.length≤cs.size)
  (h : ∀ i,cs'[i]? = if o≤i∧i<o+vs.length then vs[i - o]? else cs[i]?):(w.setCells g o vs).heap[g]? = some (.cells cs' t (0,0)):=by
 induction vs generalizing w cs o with
 | nil =>
  have:cs'=cs:=Array.ext_getElem? (fun i=>by
   have hne : ¬ (o≤i∧i<o+([]:List Value).length):=by simp
   rw [h i,if_neg hne])
  rw [this];exact hg
 | cons v r ih =>
  rw [World.setCells]
  refine ih (heap_setCell_same _ _ _ _ _ _ hg) (o+1) (by simp at hn ⊢;omega) (fun i => ?_)
  rw [h i,Array.getElem?_setIfInBounds]
  simp only [List.length_cons] at hn ⊢
  by_cases h1:i=o
  ·subst h1
   rw [if_pos (by omega),if_neg (by omega),if_pos rfl,if_pos (by omega),Nat.sub_self];rfl
  ·by_cases h2:o+1≤i∧i<o+1+r.length
   ·rw [if_pos (by omega),if_pos h2,show i - o=(i - (o+1))+1 by omega];rfl
   ·rw [if_neg (by omega),if_neg h2,if_neg (by omega)]
def mv (buf:Nat→BitVec 8) (r n:Nat) (c:Nat→BitVec 8) (i:Nat):BitVec 8:=if r≤i∧i<r+n then c (i - r) else buf i
theorem AL {W:World} {b off n:Nat} {m:Nat→BitVec 8} (hm : ∀ i,i<n→W.cell? ⟨b,off+i,none⟩=some (B (m i))) (k:Nat) (hk:k≤n) : ∀ j v,((List.range k).map fun i=>B (m i))[j]? = some v→W.cell? ((⟨b,off,none⟩:Addr).add j)=some v:=by
 intro j v hv
 obtain ⟨hj,hv'⟩:=List.getElem?_eq_some_iff.1 hv
 simp at hj hv'
 rw [bL,hm j (by omega),hv']
theorem iS (W:World) (hb i:Nat) (v:Value) (b o:Nat) (h:b≠hb):(W.setCell ⟨hb,i,none⟩ v).cell? ⟨b,o,none⟩=W.cell? ⟨b,o,none⟩ :=
 World.cell?_setCell_other _ _ _ _ (fun e=>h (by cases e;rfl))
theorem kV (n:Nat) (m:Nat→BitVec 8) : ∀ v ∈ (List.range n).map fun i=>B (m i),v.oneCell'=true:=by
 intro v hv
 obtain ⟨i,_,rfl⟩:=List.mem_map.1 hv
 rfl
theorem size_setCell (w:World) (a:Addr) (v:Value):(w.setCell a v).heap.size=w.heap.size:=by simp [World.setCell]
end Go.Proofs.YtajehiidpecknaaGreatDoor.Sh
namespace Go.Proofs.YtajehiidpecknaaGreatDoor.Sh
open Go Go.RowKit
def lenOf:Value→Nat | .slice _ n _=>n | _=>0
end Go.Proofs.YtajehiidpecknaaGreatDoor.Sh
namespace Go.Proofs.YtajehiidpecknaaGreatDoor.Sh
open Go Go.RowKit
def Bytes (w:World) (v:Value) (n:Nat) (m:Nat→BitVec 8) (hb:Nat):Prop :=
 ((∃ ad,v = .slice ad 0 0)∧n=0) ∨ ∃ b off cap,v = .slice (some ⟨b,off,none⟩) n cap∧n≤cap∧b<w.heap.size∧b≠hb ∧ ∀ i,i<n→w.cell? ⟨b,off+i,none⟩=some (B (m i))
end Go.Proofs.YtajehiidpecknaaGreatDoor.Sh
namespace Go.Proofs.YtajehiidpecknaaGreatDoor.Sh
open Go Go.RowKit
def jr (n:Nat) (f:Nat→BitVec 8):Array Value:=((List.range n).map fun i=>B (f i)).toArray
theorem cZ (n:Nat) (f:Nat→BitVec 8):(jr n f).size=n:=by simp [jr]
theorem gm (n:Nat) (f:Nat→BitVec 8) (i:Nat):(jr n f)[i]? = if i<n then some (B (f i)) else none:=by
 rw [jr,List.getElem?_toArray,List.getElem?_map]
 by_cases h:i<n
 ·rw [List.getElem?_range h,if_pos h];rfl
 ·rw [if_neg h,List.getElem?_eq_none (by simpa using h)];rfl
theorem ug (k:Nat) (f:Nat→BitVec 8) (r n:Nat) (c:Nat→BitVec 8) (hn:r+n≤k) :
  ((jr k f).toList.take r ++ (((List.range n).map fun i=>B (c i)) ++ (jr k f).toList.drop (r+((List.range n).map fun i=>B (c i)).length))).toArray=jr k (mv f r n c):=by
 apply Array.ext_getElem?
 intro i
 have hs:(jr k f).toList.length=k:=by rw [Array.length_toList,cZ]
 have hc:(((List.range n).map fun i=>B (c i))).length=n:=by simp
 rw [hc,List.getElem?_toArray,gm]
 by_cases h1:i<r
 ·have hne : ¬ (r≤i∧i<r+n):=by omega
  rw [List.getElem?_append_left (by rw [List.length_take,hs];omega),List.getElem?_take,if_pos h1,Array.getElem?_toList,gm,mv,if_neg hne]
 ·rw [List.getElem?_append_right (by rw [List.length_take,hs];omega),List.length_take,hs,show min r k=r by omega]
  by_cases h2:i<r+n
  ·rw [List.getElem?_append_left (by rw [hc];omega),List.getElem?_map,List.getElem?_range (by omega),if_pos (by omega),mv,if_pos ⟨by omega,h2⟩];rfl
  ·have hne : ¬ (r≤i∧i<r+n):=by omega
   rw [List.getElem?_append_right (by rw [hc];omega),hc,List.getElem?_drop,show r+n+(i - r - n)=i by omega,Array.getElem?_toList,gm,mv,if_neg hne]
end Go.Proofs.YtajehiidpecknaaGreatDoor.Sh
namespace Go.Proofs.YtajehiidpecknaaGreatDoor.Sh.Q5
open Go Go.RowKit
def OM:List (BitVec 64):=[4794697086780616226,8158064640168781261,13096744586834688815,16840607885511220156,4131703408338449720,6480981068601479193,10538285296894168987,12329834152419229976,15566598209576043074,1334009975649890238,2608012711638119052,6128411473006802146,8268148722764581231,9286055187155687089,11230858885718282805,13951009754708518548,16472876342353939154,17275323862435702243,1135362057144423861,2597628984639134821,3308224258029322869,5365058923640841347,6679025012923562964,8573033837759648693,10970295158949994411,12119686244451234320,12683024718118986047,13788192230050041572,14330467153632333762,15395433587784984357,489312712824947311,1452737877330783856,2861767655752347644,3322285676063803686,5560940570517711597,5996557281743188959,7280758554555802590,8532644243296465576,9350256976987008742,10552545826968843579,11727347734174303076,12113106623233404929,14000437183269869457,14369950271660146224,15101387698204529176,15463397548674623760,17586052441742319658,1182934255886127544,1847814050463011016,2177327727835720531,2830643537854262169,3796741975233480872,4115178125766777443,5681478168544905931,6601373596472566643,7507060721942968483,8399075790359081724,8693463985226723168,9568029438360202098,10144078919501101548,10430055236837252648,11840083180663258601,13761210420658862357,14299343276471374635,14566680578165727644,15097957966210449927,16922976911328602910,17689382322260857208,500013540394364858,748580250866718886,1242879168328830382,1977374033974150939,2944078676154940804,3659926193048069267,4368137639120453308,4836135668995329356,5532061633213252278,6448918945643986474,6902733635092675308,7801388544844847127]
def aW (t:Nat):BitVec 64:=OM.getD t 0
def cj:St:=⟨7640891576956012808,13503953896175478587,4354685564936845355,11912009170470909681,5840696475078001361,11170449401992604703,2270897969802886507,6620516959819538809⟩
def cN (m:Nat→BitVec 8) (t:Nat):BitVec 64 :=
 if _h:t<16 then word fun i=>m (8*t+i)
 else lo1 (cN m (t - 2))+cN m (t - 7)+lo0 (cN m (t - 15))+cN m (t - 16)
theorem eU (m:Nat→BitVec 8):Sched m (cN m) where
 first t h:=by rw [cN,dif_pos h]
 later t h _:=by rw [cN,dif_neg (by omega)]
def compress (K:Nat→BitVec 64) (s:St) (m:Nat→BitVec 8):St:=plus s (rounds K (cN m) s 80)
def blocks (K:Nat→BitVec 64) (s0:St) (M:Nat→BitVec 8):Nat→St
 | 0=>s0
 | k+1=>compress K (blocks K s0 M k) (fun i=>M (128*k+i))
theorem oM {b b':Nat→BitVec 8} (h : ∀ i,i<8→b i=b' i):word b=word b':=by
 unfold word
 rw [h 0 (by omega),h 1 (by omega),h 2 (by omega),h 3 (by omega),h 4 (by omega),h 5 (by omega),h 6 (by omega),h 7 (by omega)]
theorem tp (m m':Nat→BitVec 8) (h : ∀ i,i<128→m i=m' i) : ∀ t,t<80→cN m t=cN m' t:=by
 intro t
 induction t using Nat.strongRecOn with
 | _ t ih =>
  intro ht
  by_cases h1:t<16
  ·rw [(eU m).first t h1,(eU m').first t h1]
   exact oM fun i hi=>h _ (by omega)
  ·rw [(eU m).later t (by omega) ht,(eU m').later t (by omega) ht,ih (t - 2) (by omega) (by omega),ih (t - 7) (by omega) (by omega),ih (t - 15) (by omega) (by omega),ih (t - 16) (by omega) (by omega)]
theorem kM (K W W':Nat→BitVec 64) (s:St) : ∀ n,(∀ t,t<n→W t=W' t)→rounds K W s n=rounds K W' s n
 | 0,_=>rfl
 | n+1,h=>by rw [rounds,rounds,kM K W W' s n (fun t ht=>h t (by omega)),h n (by omega)]
theorem dF (K:Nat→BitVec 64) (s:St) (m m':Nat→BitVec 8) (h : ∀ i,i<128→m i=m' i):compress K s m=compress K s m':=by
 rw [compress,compress,kM K _ _ s 80 (tp m m' h)]
theorem kJ (K:Nat→BitVec 64) (s0:St) (M M':Nat→BitVec 8) : ∀ k,(∀ i,i<128*k→M i=M' i)→blocks K s0 M k=blocks K s0 M' k
 | 0,_=>rfl
 | k+1,h=>by rw [blocks,blocks,kJ K s0 M M' k (fun i hi=>h i (by omega)),dF K _ _ _ (fun i hi=>h (128*k+i) (by omega))]
def ga (N:Nat):Nat:=(N+16)/128+1
def bQ (N j:Nat):BitVec 8:=if j<8 then 0 else (BitVec.ofNat 64 (8*N) >>> (56 - 8*(j - 8))).setWidth 8
def aG (M:Nat→BitVec 8) (N i:Nat):BitVec 8:=if i<N then M i else if i=N then 128 else if i<128*ga N - 16 then 0 else bQ N (i - (128*ga N - 16))
def gg (K:Nat→BitVec 64) (s0:St) (M:Nat→BitVec 8) (N:Nat):St:=blocks K s0 (aG M N) (ga N)
theorem nP (K:Nat→BitVec 64) (s0:St) (M:Nat→BitVec 8) (N:Nat):blocks K s0 (aG M N) (N/128)=blocks K s0 M (N/128) :=
 kJ K s0 _ _ _ (fun i hi=>by rw [aG,if_pos (by omega)])
theorem kh (s:St) : ∀ i,i<8→s.row[i]? = some (U (s.at i))
 | 0,_=>rfl
 | 1,_=>rfl
 | 2,_=>rfl
 | 3,_=>rfl
 | 4,_=>rfl
 | 5,_=>rfl
 | 6,_=>rfl
 | 7,_=>rfl
theorem kC {W:World} {q:Nat} {cs:Array Value} (hq:W.heap[q]? = some (.cells cs 86 (0,0))) (hs:cs.size=8) (p:St):(W.setCells q 0 p.row.toList).heap[q]? = some (.cells p.row 86 (0,0)):=by
 refine dW hq 0 _ (by rw [hs];simp [St.row]) (fun i => ?_)
 have hl:p.row.toList.length=8:=rfl
 rw [hl,Array.getElem?_toList]
 by_cases h1:i<8
 ·rw [if_pos (by omega)];rfl
 ·have hne : ¬ (0≤i∧i<0+8):=by omega
  rw [if_neg hne,Array.getElem?_eq_none (by simp [St.row];omega),Array.getElem?_eq_none (by omega)]
end Go.Proofs.YtajehiidpecknaaGreatDoor.Sh.Q5
namespace Go.Proofs.YtajehiidpecknaaGreatDoor.Sh.Q5
open Go Go.RowKit
set_option maxRecDepth 100000
namespace M64
theorem maskN (a:Nat) (ha:a<18446744073709551616):bits .and .u64 (a:Int) 4294967295=((a % 4294967296:Nat):Int):=by
 have h:=bits_and_u64_nat a 4294967295 ha (by omega)
 have e:a &&& 4294967295=a % 4294967296:=Nat.and_two_pow_sub_one_eq_mod a 32
 rw [e] at h
 exact h
theorem divN (a:Nat):(a:Int)/4294967296=((a/4294967296:Nat):Int):=by omega
theorem mulN (a b:Nat):(a:Int)*(b:Int)=((a*b:Nat):Int):=(Int.natCast_mul a b).symm
theorem addN (a b:Nat):(a:Int)+(b:Int)=((a+b:Nat):Int):=(Int.natCast_add a b).symm
theorem wrapN (a:Nat) (ha:a<18446744073709551616):IntKind.u64.wrap (a:Int)=(a:Int):=by rw [IntKind.wrap_u64];omega
theorem wrapM (a:Nat):IntKind.u64.wrap (a:Int)=((a % 18446744073709551616:Nat):Int):=by rw [IntKind.wrap_u64];omega
end M64
set_option maxHeartbeats 1000000 in
theorem gu (x y:Nat) (hx:x<18446744073709551616) (hy:y<18446744073709551616) (w:World) :
  Calls Tryz.prog 60 #[.int .u64 x,.int .u64 y] w fun e w'=>e = .returned (.tuple #[.int .u64 ((x*y/18446744073709551616:Nat):Int),.int .u64 ((x*y % 18446744073709551616:Nat):Int)])∧w'=w:=by
 obtain ⟨bd,bt,bw,hhi⟩:=Lib.mul64_hi x y hx hy
 have ba:=Lib.half_mul_le (a:=x/4294967296) (b:=y/4294967296) (by omega) (by omega)
 have bb:=Lib.half_mul_le (a:=x/4294967296) (b:=y % 4294967296) (by omega) (by omega)
 have bc:=Lib.half_mul_le (a:=x % 4294967296) (b:=y/4294967296) (by omega) (by omega)
 have ba':x/4294967296*(y/4294967296)<18446744073709551616:=by omega
 have bb':x/4294967296*(y % 4294967296)<18446744073709551616:=by omega
 have bc':x % 4294967296*(y/4294967296)<18446744073709551616:=by omega
 have bh1:x/4294967296*(y/4294967296)+(x/4294967296*(y % 4294967296)+x % 4294967296*(y % 4294967296)/4294967296)/4294967296<18446744073709551616:=by omega
 have bh:x/4294967296*(y/4294967296)+(x/4294967296*(y % 4294967296)+x % 4294967296*(y % 4294967296)/4294967296)/4294967296+((x/4294967296*(y % 4294967296)+x % 4294967296*(y % 4294967296)/4294967296) % 4294967296+x % 4294967296*(y/4294967296))/4294967296<18446744073709551616:=by omega
 go_enter Tryz.func60,Tryz.ntmps60
 go_wp2
 simp only [M64.maskN x hx,M64.maskN y hy,M64.divN,M64.mulN,M64.addN,M64.wrapN _ bd,M64.wrapN _ bb',M64.wrapN _ bt,M64.maskN _ bt,M64.wrapN _ bc',M64.wrapN _ bw,M64.wrapN _ ba',M64.wrapN _ bh1,M64.wrapN _ bh,M64.wrapM (x*y)]
 rw [hhi]
 go_ret2
 exact ⟨rfl,rfl⟩
theorem Ku (n:Nat) (hn:n<1152921504606846976) (w:World) :
  Calls Tryz.prog 60 #[.int .u64 (n:Int),.int .u64 8] w fun e w'=>e = .returned (.tuple #[L 0,L (BitVec.ofNat 64 (8*n))])∧w'=w:=by
 refine (gu n 8 (by omega) (by omega) w).mono ?_
 rintro e w' ⟨rfl,rfl⟩
 refine ⟨?_,rfl⟩
 have e1:n*8/18446744073709551616=0:=by omega
 have e2:L (BitVec.ofNat 64 (8*n)) = .int .u64 ((n*8 % 18446744073709551616:Nat):Int):=by
  show Value.int .u64 ((BitVec.ofNat 64 (8*n)).toNat:Int)=_
  rw [BitVec.toNat_ofNat,Nat.mul_comm]
 rw [e1,e2];rfl
structure Tabs (w:World):Prop where
 sq : ∀ i,i<8→w.cell? ⟨0,i,none⟩=some (U (cj.at i))
 cu : ∀ i,i<80→w.cell? ⟨3,i,none⟩=some (U (aW i))
theorem Tabs.lt {w:World} (h:Tabs w):0<w.heap.size∧3<w.heap.size :=
 ⟨block_lt_of_cell (h.sq 0 (by omega)),block_lt_of_cell (h.cu 0 (by omega))⟩
theorem Tabs.below {w w':World} {B0:Nat} (h:Tabs w) (hb:Below B0 w w') (h0:0<B0∧3<B0):Tabs w' :=
 ⟨fun i hi=>(hb.cell (p:=⟨_,i,none⟩) h0.1).trans (h.sq i hi),fun i hi=>(hb.cell (p:=⟨_,i,none⟩) h0.2).trans (h.cu i hi)⟩
theorem oE (m:Nat→BitVec 8) (s s':St) (hp:compress aW s m=s') (b off n cap:Nat) (hn:128≤n) (hcap:n≤cap) (w:World) (hm : ∀ i,i<128→w.cell? ⟨b,off+i,none⟩=some (B (m i)))
  (hK : ∀ i,i<80→w.cell? ⟨3,i,none⟩=some (U (aW i))) :
  Calls Tryz.prog 59 #[.agg s.row,.slice (some ⟨b,off,none⟩) n cap] w fun e w'=>e = .returned (.agg s'.row)∧Below w.heap.size w w':=by
 refine (Bo aW m (cN m) (eU m) s b off n cap hn hcap w hm hK).mono ?_
 rintro e w' ⟨rfl,h⟩
 exact ⟨congrArg (fun s:St=>Ending.returned (.agg s.row)) hp,h⟩
def zb:Array Value:=(List.replicate 64 (Value.int .u8 0)).toArray
theorem mR:zb.size=64:=by simp [zb]
theorem xY (w:World):(zeroValue 29).run Tryz.prog w = .ok (.agg zb) w:=by kernel_rfl
def yl:Array Value:=(List.replicate 256 (Value.int .u8 0)).toArray
theorem AH:yl=jr 256 (fun _=>0):=by kernel_rfl
theorem DW (w:World):(zeroValue 88).run Tryz.prog w = .ok (.agg yl) w:=by kernel_rfl
theorem dQ:(Tryz.prog.info? 86).map (·.size)=some 8:=by kernel_rfl
theorem lM:(Tryz.prog.info? 29).map (·.size)=some 64:=by kernel_rfl
theorem gN (s:St):s.row.size=8:=rfl
theorem fF (s:St):s.row.toList.length=8:=rfl
theorem nO (b c:Nat) (hc:c≠b) : ∀ (vs:List Value) (o:Nat) (w:World),(w.setCells b o vs).heap[c]? = w.heap[c]?
 | [],_,_=>rfl
 | v :: r,o,w=>by
  rw [World.setCells,nO b c hc r (o+1)]
  exact heap_setCell_other _ _ _ _ hc
structure MX (w W:World) (s:St):Prop where
 below:Below w.heap.size w W
 res:W.heap[w.heap.size]? = some (.cells zb 29 (0,0))
 st:W.heap[w.heap.size+1]? = some (.cells s.row 86 (0,0))
theorem MX.size {w W:World} {s:St} (h:MX w W s):w.heap.size+2≤W.heap.size:=(YM.1 h.st).1
theorem MX.more {w W W':World} {s:St} (h:MX w W s) (hb:Below W.heap.size W W'):MX w W' s :=
 ⟨h.below.trans (hb.mono h.below.size),(hb.block _ (YM.1 h.res).1).trans h.res,(hb.block _ (YM.1 h.st).1).trans h.st⟩
theorem MX.range {w W:World} {s:St} (h:MX w W s):W.rangeAt (w.heap.size+1) 0 s.row.toList:=fun j u hu=>by
 rw [cell_of_row W _ _ _ _ _ h.st,Nat.zero_add,←Array.getElem?_toList];exact hu
theorem MX.there {w W:World} {s:St} (h:MX w W s) (s':St):W.there (w.heap.size+1) 0 s'.row.size:=aw h.st 0 8 (by rw [gN];omega)
theorem MX.put {w W:World} {s:St} (h:MX w W s) (s':St):MX w (W.setCells (w.heap.size+1) 0 s'.row.toList) s':=by
 have hh:=af (B0:=w.heap.size+1) (a:=W) (w.heap.size+1) (Nat.le_refl _) s'.row.toList 0 W (Below.refl _ _)
 exact ⟨h.below.trans (hh.mono (by omega)),(hh.block _ (by omega)).trans h.res,kC h.st rfl s'⟩
theorem MX.drew {w W:World} {s:St} (h:MX w W s):MX w { W with drawn:=W.drawn+1 } s:=⟨h.below.drew,h.res,h.st⟩
structure MY (w W:World) (s:St) (q:Nat) (f:Nat→BitVec 8):Prop where
 mx:MX w W s
 pos:w.heap.size+2≤q
 last:W.heap[q]? = some (.cells (jr 256 f) 88 (0,0))
theorem MY.qlt {w W:World} {s:St} {q:Nat} {f:Nat→BitVec 8} (h:MY w W s q f):q<W.heap.size:=(YM.1 h.last).1
theorem MY.more {w W W':World} {s:St} {q:Nat} {f:Nat→BitVec 8} (h:MY w W s q f) (hb:Below W.heap.size W W'):MY w W' s q f:=⟨h.mx.more hb,h.pos,(hb.block _ h.qlt).trans h.last⟩
theorem MY.put {w W:World} {s:St} {q:Nat} {f:Nat→BitVec 8} (h:MY w W s q f) (s':St):MY w (W.setCells (w.heap.size+1) 0 s'.row.toList) s' q f:=by
 refine ⟨h.mx.put s',h.pos,?_⟩
 have hp:=h.pos
 exact (nO (w.heap.size+1) q (by omega) s'.row.toList 0 W).trans h.last
theorem MY.drew {w W:World} {s:St} {q:Nat} {f:Nat→BitVec 8} (h:MY w W s q f):MY w { W with drawn:=W.drawn+1 } s q f:=⟨h.mx.drew,h.pos,h.last⟩
theorem MY.cell {w W:World} {s:St} {q:Nat} {f:Nat→BitVec 8} (h:MY w W s q f) (i:Nat) (hi:i<256):W.cell? ⟨q,i,none⟩=some (B (f i)):=by
 rw [cell_of_row W _ i _ _ _ h.last,gm,if_pos hi]
theorem MY.froz {w W:World} {s:St} {q:Nat} {f:Nat→BitVec 8} (h:MY w W s q f) (i:Nat):W.frozen? ⟨q,i,none⟩=false:=frozen_of_row _ _ _ _ _ h.last
theorem MY.set {w W:World} {s:St} {q:Nat} {f f':Nat→BitVec 8} (h:MY w W s q f) (o:Nat) (vs:List Value) (hn:o+vs.length≤256) (hf : ∀ i,i<256→some (B (f' i))=if o≤i∧i<o+vs.length then vs[i - o]? else some (B (f i))) :
  MY w (W.setCells q o vs) s q f':=by
 have hp:=h.pos
 have hh:=af (B0:=w.heap.size+2) (a:=W) q hp vs o W (Below.refl _ _)
 refine ⟨⟨h.mx.below.trans (hh.mono (by omega)),(hh.block _ (by omega)).trans h.mx.res,(hh.block _ (by omega)).trans h.mx.st⟩,hp,?_⟩
 refine dW h.last o vs (by rw [cZ];exact hn) (fun i => ?_)
 rw [gm,gm]
 by_cases h1:i<256
 ·rw [if_pos h1,if_pos h1];exact hf i h1
 ·rw [if_neg h1,if_neg h1]
  have hne : ¬ (o≤i∧i<o+vs.length):=by omega
  rw [if_neg hne]
end Go.Proofs.YtajehiidpecknaaGreatDoor.Sh.Q5
