import Derived.Test.YtajehiidpecknaaGreatDoorProg
import Derived.Test.YtajehiidpecknaaGreatDoorChecked
import Derived.WalkKit
import Derived.WalkSpells
import Derived.Laws.BytesArg
import Derived.Laws.AppendOwnNone
import Derived.Maps.AppendAt
import Derived.OwnWalk
import Derived.Laws.RangeString
import Derived.Laws.RangeAny
import Derived.Test.YtajehiidpecknaaGreatDoorRows
import Derived.ProofKit
import Derived.OpenShut
import Derived.ChangeOld
import Derived.SizedLaws
import Derived.Test.YtajehiidpecknaaGreatDoorSho
set_option linter.all false
namespace Go.Proofs.YtajehiidpecknaaGreatDoor.Wi
open Go Go.RowKit
def gi (xs:List Int) (i:Nat):Int:=xs.getD i 0
theorem Bv {xs:List Int} {i:Nat} (h:i<xs.length):gi xs i=xs[i]:=by simp [gi,List.getD,List.getElem?_eq_getElem h]
def bv (xs:List Int):List Value:=xs.map (Value.int .u8)
theorem ae (xs:List Int):(bv xs).length=xs.length:=by simp [bv]
theorem jm (xs ys:List Int):bv (xs ++ ys)=bv xs ++ bv ys:=by simp [bv]
theorem de (xs:List Int) {i:Nat} (h:i<xs.length):(bv xs)[i]? = some (.int .u8 (gi xs i)):=by
 rw [Bv h];simp [bv,List.getElem?_eq_getElem h]
theorem ia (xs:List Int) : ∀ u ∈ bv xs,u.oneCell'=true:=by
 intro u hu
 obtain ⟨z,_,rfl⟩:=List.mem_map.1 hu
 rfl
def Byt (xs:List Int):Prop := ∀ z ∈ xs,0≤z∧z≤255
theorem Byt.get {xs:List Int} (h:Byt xs) {i:Nat} (hi:i<xs.length):0≤gi xs i∧gi xs i≤255:=by
 rw [Bv hi]
 exact h _ (List.getElem_mem _)
theorem Byt.append {xs ys:List Int} (h:Byt xs) (k:Byt ys):Byt (xs ++ ys):=fun z hz=>by
 rcases List.mem_append.1 hz with hz | hz
 ·exact h z hz
 ·exact k z hz
theorem Byt.nil:Byt []:=fun z hz=>by cases hz
def Sl (w:World) (v:Value) (xs:List Int):Prop :=
 ∃ ad cap,v = .slice ad xs.length cap∧xs.length≤cap∧((xs = []∧(ad=none→cap=0)) ∨ ∃ b o,ad=some ⟨b,o,none⟩∧b<w.heap.size ∧ ∀ i,i<xs.length→w.cell? ⟨b,o+i,none⟩=some (.int .u8 (gi xs i)))
theorem Sl.below {w w':World} {v:Value} {xs:List Int} {B0:Nat} (h:Sl w v xs) (hb:Below B0 w w') (hB:w.heap.size≤B0):Sl w' v xs:=by
 obtain ⟨ad,cap,rfl,hc,h⟩:=h
 refine ⟨ad,cap,rfl,hc,?_⟩
 rcases h with h | ⟨b,o,rfl,hlt,hm⟩
 ·exact .inl h
 ·exact .inr ⟨b,o,rfl,YI hlt hb.size,fun i hi=>(hb.cell (p:=⟨b,o+i,none⟩) (YI hlt hB)).trans (hm i hi)⟩
def Ow (B0:Nat) (w:World) (v:Value) (xs:List Int):Prop:=w.ownsRow B0 5 1 v xs.length (bv xs)
theorem Ow.nil (B0:Nat) (w:World):Ow B0 w (.slice none 0 0) []:=⟨rfl,.inl ⟨rfl,rfl⟩⟩
theorem Ow.sl {B0:Nat} {w:World} {v:Value} {xs:List Int} (h:Ow B0 w v xs):Sl w v xs:=by
 rcases h.2 with ⟨rfl,h0⟩ | ⟨g,cap,cur,hv,hb,hg,hc,_,hs,ht⟩
 ·obtain rfl:=List.length_eq_zero_iff.1 h0
  exact ⟨none,0,rfl,Nat.le_refl _,.inl ⟨rfl,fun _=>rfl⟩⟩
 ·refine ⟨_,cap,hv,hc,.inr ⟨g,0,rfl,(YM.1 hg).1,fun i hi => ?_⟩⟩
  have e:(cur.toList.take (xs.length*1))[i]? = some (.int .u8 (gi xs i)):=by rw [ht];exact de xs hi
  rw [List.getElem?_take,if_pos (by omega),Array.getElem?_toList] at e
  simp only [World.cell?,hg,Nat.zero_add,Option.isSome_none,Bool.false_eq_true,if_false,e]
theorem Ow.blk {B0:Nat} {w:World} {v:Value} {xs:List Int} (h:Ow B0 w v xs) : ∀ b,v.ownBlock=some b→B0≤b:=by
 intro b hb
 rcases h.2 with ⟨rfl,_⟩ | ⟨g,cap,cur,rfl,hg,_⟩
 ·simp [Value.ownBlock] at hb
 ·simp [Value.ownBlock] at hb;omega
theorem Ow.keep {B0:Nat} {w w':World} {v:Value} {xs:List Int} (h:Ow B0 w v xs) (hk : ∀ b,v.ownBlock=some b→w'.heap[b]? = w.heap[b]?):Ow B0 w' v xs:=by
 refine ⟨h.1,?_⟩
 rcases h.2 with h | ⟨g,cap,cur,rfl,hb,hg,hc⟩
 ·exact .inl h
 ·exact .inr ⟨g,cap,cur,rfl,hb,by rw [hk g rfl];exact hg,hc⟩
theorem Ow.below {B0:Nat} {w w':World} {v:Value} {xs:List Int} (h:Ow B0 w v xs) (hb:Below w.heap.size w w'):Ow B0 w' v xs:=by
 refine h.keep (fun b e=>hb.block b ?_)
 rcases h.2 with ⟨rfl,_⟩ | ⟨g,cap,cur,rfl,_,hg,_⟩
 ·simp [Value.ownBlock] at e
 ·simp [Value.ownBlock] at e;subst e;exact (YM.1 hg).1
theorem Ow.mono {B0 B1:Nat} {w:World} {v:Value} {xs:List Int} (h:Ow B0 w v xs) (hB:B1≤B0):Ow B1 w v xs:=by
 refine ⟨h.1,?_⟩
 rcases h.2 with h | ⟨g,cap,cur,hv,hb,hg⟩
 ·exact .inl h
 ·exact .inr ⟨g,cap,cur,hv,Nat.le_trans hB hb,hg⟩
theorem Sl.one (w:World) (z:Int) (t:TypeId):Sl (w.alloc (.cells #[.int .u8 z] t)) (.slice (some ⟨w.heap.size,0,none⟩) 1 1) [z]:=by
 refine ⟨_,1,rfl,Nat.le_refl _,.inr ⟨_,0,rfl,by simp,fun i hi => ?_⟩⟩
 obtain rfl:i=0:=by simpa using hi
 have:(w.alloc (.cells #[.int .u8 z] t)).heap[w.heap.size]? = some (.cells #[.int .u8 z] t):=by show (w.heap.push _)[w.heap.size]? = _;simp
 unfold World.cell?;rw [this];rfl
theorem jg : ∃ i,Tryz.prog.info? 5=some i∧i.zero=some (.int .u8 0)∧i.size=1∧i.bytes=1:=by
 have h1:(Tryz.prog.info? 5).map (·.size)=some 1:=by kernel_rfl
 have h2:(Tryz.prog.info? 5).map (·.bytes)=some 1:=by kernel_rfl
 have h3:(Tryz.prog.info? 5).map (·.zero)=some (some (.int .u8 0)):=by kernel_rfl
 cases hq:Tryz.prog.info? 5 with
 | none=>rw [hq] at h1;cases h1
 | some i =>
  rw [hq] at h1 h2 h3
  exact ⟨i,rfl,Option.some.inj h3,Option.some.inj h1,Option.some.inj h2⟩
theorem bL (g o j:Nat):(⟨g,o,none⟩:Addr).add j=⟨g,o+j,none⟩:=by unfold Addr.add;split <;> simp_all
theorem rT {ops:Array Oper} {rest:List Oper} {o:Oper} {a:Act} {Q:Exit→Act→World→Prop} {B0:Nat} {wr:World} (hgd:o.guard=none) (s x:Operand) (ho:o.op = .call { callee := .builtin .append,args := #[s,x],argTypes := #[23,23] })
  (hB:B0≤wr.heap.size) (v:Value) (xs:List Int) (hs:a.eval s=v) (h0:Ow B0 wr v xs) (u:Value) (hx:a.eval x=u) (ys:List Int) (hg:Sl wr u ys) (hk:xs.length+ys.length≤140737488355328)
  (h : ∀ v' w',Ow B0 w' v' (xs ++ ys)→wr.grownBy w' v.ownBlock→Below B0 wr w'→(v'.ownBlock=v.ownBlock∨v'.ownBlock=some wr.heap.size)→wpList Tryz.prog ops Q rest (a.put o.dst v') w'):wpList Tryz.prog ops Q (o :: rest) a wr:=by
 obtain ⟨i,hi,hz,hsz,hby⟩:=jg
 obtain ⟨ad,cap,rfl,hc,hg⟩:=hg
 have fin : ∀ v' w',w'.ownsRow B0 5 1 v' (xs.length+ys.length) (bv xs ++ bv ys)→wr.grownBy w' v.ownBlock→(v'.ownBlock=v.ownBlock∨v'.ownBlock=some wr.heap.size)→wpList Tryz.prog ops Q rest (a.put o.dst v') w':=by
  intro v' w' h1 h2 h4
  refine h v' w' ?_ h2 ((Below.refl B0 wr).grown h2 hB (fun b hb'=>h0.blk b hb')) h4
  unfold Ow
  rw [List.length_append,jm];exact h1
 rcases hg with ⟨rfl,hn⟩ | ⟨b,off,rfl,_,hm⟩
 ·cases ad with
  | some A =>
   exact wpList_append_own_at wr hgd s x 23 ho B0 5 i (.int .u8 0) 1 1 Tryz.underlying23 hi hz hsz hby rfl (by decide) v xs.length (bv xs) hs h0 A 0 cap [] hx rfl (fun j u hu=>by simp at hu) (fun _ h=>by cases h) (by simp at hk;unfold maxLen;omega) (by simp at hk;omega) hB (fun v' w' h1 h2 _ h4=>fin v' w' h1 h2 h4)
  | none =>
   obtain rfl:=hn rfl
   refine wpList_append_own_none hgd s x 23 ho B0 5 i 1 Tryz.underlying23 hi v xs.length (bv xs) hs h0 hx (h v wr (by rw [List.append_nil];exact h0) ?_ (Below.refl _ _) (.inl rfl))
   exact World.grownBy.refl _ _
 ·refine wpList_append_own_at wr hgd s x 23 ho B0 5 i (.int .u8 0) 1 1 Tryz.underlying23 hi hz hsz hby rfl (by decide) v xs.length (bv xs) hs h0 ⟨b,off,none⟩ ys.length cap (bv ys) hx (by rw [ae];omega) ?_ (ia _) (by unfold maxLen;omega) (by omega) hB (fun v' w' h1 h2 _ h4=>fin v' w' h1 h2 h4)
  intro j u hu
  obtain ⟨hj,hv⟩:=List.getElem?_eq_some_iff.1 hu
  rw [ae] at hj
  rw [bL,hm j hj,←de ys hj,←hu]
theorem Ow.set {B0 g n cap:Nat} {w:World} {xs:List Int} (h:Ow B0 w (.slice (some ⟨g,0,none⟩) n cap) xs) (j:Nat) (z:Int) :
  Ow B0 (w.setCell ⟨g,j,none⟩ (.int .u8 z)) (.slice (some ⟨g,0,none⟩) n cap) (xs.set j z)∧w.grownBy (w.setCell ⟨g,j,none⟩ (.int .u8 z)) (some g):=by
 have hn:n=xs.length:=by
  rcases h.2 with ⟨h',_⟩ | ⟨g',cap',cur,h',_⟩
  ·simp at h'
  ·simp at h';exact h'.2.1
 subst hn
 obtain ⟨h1,h2⟩:=World.ownsRow.stored h j (.int .u8 z)
 refine ⟨?_,h2⟩
 unfold Ow
 rw [List.length_set,show bv (xs.set j z)=(bv xs).set j (.int .u8 z) by simp [bv,List.map_set]]
 exact h1
theorem Ow.cell {B0 g n cap:Nat} {w:World} {xs:List Int} (h:Ow B0 w (.slice (some ⟨g,0,none⟩) n cap) xs) {j:Nat} (hj:j<xs.length) :
  w.cell? ⟨g,j,none⟩=some (.int .u8 (gi xs j))∧w.frozen? ⟨g,j,none⟩=false:=by
 refine ⟨?_,?_⟩
 ·obtain ⟨ad,cap',hv,_,h1⟩:=h.sl
  rcases h1 with ⟨rfl,_⟩ | ⟨b,o,rfl,_,hm⟩
  ·simp at hj
  ·have hv':g=b∧0=o:=by simp at hv;exact ⟨hv.1.1,hv.1.2⟩
   obtain ⟨rfl,rfl⟩:=hv'
   have:=hm j hj
   rwa [Nat.zero_add] at this
 ·rcases h.2 with ⟨h',_⟩ | ⟨g',cap',cur,h',_,hg,_⟩
  ·simp at h'
  ·simp at h';obtain ⟨rfl,_⟩:=h'
   simp [World.frozen?,hg]
end Go.Proofs.YtajehiidpecknaaGreatDoor.Wi
namespace Go.Proofs.YtajehiidpecknaaGreatDoor.Wi
open Go Go.RowKit
def dg (n:Int) (i:Nat):Int:=n/2 ^ (8*i) % 256
def be (s:Nat) (n:Int):List Int:=(List.range s).map fun t=>dg n (s - 1 - t)
end Go.Proofs.YtajehiidpecknaaGreatDoor.Wi
namespace Go.Proofs.YtajehiidpecknaaGreatDoor.Wi
open Go Go.RowKit
def mi (xss:List (List Int)) (i:Nat):List Int:=xss.getD i []
theorem Ke {xss:List (List Int)} {i:Nat} (h:i<xss.length):mi xss i=xss[i]:=by simp [mi,List.getD,List.getElem?_eq_getElem h]
def LL (w:World) (v:Value) (xss:List (List Int)):Prop :=
 ∃ ad cap,v = .slice ad xss.length cap∧xss.length≤cap∧((xss = []∧(ad=none→cap=0)) ∨ ∃ b o,ad=some ⟨b,o,none⟩∧b<w.heap.size ∧ ∀ i,i<xss.length → ∃ u,w.cell? ⟨b,o+i,none⟩=some u∧Sl w u (mi xss i))
theorem LL.below {w w':World} {v:Value} {xss:List (List Int)} (h:LL w v xss) (hb:Below w.heap.size w w'):LL w' v xss:=by
 obtain ⟨ad,cap,rfl,hc,h⟩:=h
 refine ⟨ad,cap,rfl,hc,?_⟩
 rcases h with h | ⟨b,o,rfl,hlt,hm⟩
 ·exact .inl h
 ·refine .inr ⟨b,o,rfl,YI hlt hb.size,fun i hi => ?_⟩
  obtain ⟨u,h1,h2⟩:=hm i hi
  exact ⟨u,(hb.cell (p:=⟨b,o+i,none⟩) hlt).trans h1,h2.below hb (Nat.le_refl _)⟩
def sz (xss:List (List Int)):Nat→Nat
 | 0=>4
 | k+1=>sz xss k+4+(mi xss k).length
def big (xss:List (List Int)):Bool:=decide (65536<xss.length∨1048576<sz xss xss.length)
end Go.Proofs.YtajehiidpecknaaGreatDoor.Wi
namespace Go.Proofs.YtajehiidpecknaaGreatDoor.Wi
open Go Go.RowKit
theorem fu (w:World) (cs:Array Value) (t:TypeId) (f:Nat × Nat) (j:Nat):(w.alloc (.cells cs t f)).cell? ⟨w.heap.size,j,none⟩=cs[j]? := by
 have:(w.alloc (.cells cs t f)).heap[w.heap.size]? = some (.cells cs t f):=by show (w.heap.push _)[w.heap.size]? = _;simp
 unfold World.cell?;rw [this];rfl
end Go.Proofs.YtajehiidpecknaaGreatDoor.Wi
namespace Go.Proofs.YtajehiidpecknaaGreatDoor.Wi
open Go Go.ChangeShapes Go.WideShapes Go.ChangeAt Go.RowKit
set_option maxRecDepth 100000
theorem ux {W:World} {base:Nat} {x:Addr} {l c:Nat} {t e:TypeId} (hu:Tryz.prog.underlying t=some (.slice e)) (hv:Value.okWide Tryz.prog W .any base t (.slice (some x) l c)):x.spot=none∧x.block<W.heap.size:=by
 simp only [Value.okWide,hu,Cell.okWide,Cell.ok] at hv
 obtain ⟨_,_,_,hs,row,cells,hsh,_⟩:=hv
 refine ⟨hs,?_⟩
 unfold World.shape? at hsh
 cases hg:W.heap[x.block]? with
 | none=>rw [hg] at hsh;simp at hsh
 | some o=>exact (YM.1 hg).1
theorem yW {n:Int} (h:(Lit.int .u8 n).wf=true):0≤n∧n≤255:=by
 simp only [Lit.wf,Bool.and_eq_true,decide_eq_true_eq] at h
 exact h
theorem MK {W:World} {b o l c:Nat} {zs:List Int} (hb:b<W.heap.size) (hl:l≤c) (hz:zs.length=c) (hcell : ∀ i,i<zs.length→W.cell? ((⟨b,o,none⟩:Addr).add i)=some (.int .u8 (zs.getD i 0))) (hwz : ∀ n ∈ zs,(Lit.int .u8 n).wf=true) :
  Byt (zs.take l)∧(zs.take l).length=l∧Sl W (.slice (some ⟨b,o,none⟩) l c) (zs.take l):=by
 have hlen:(zs.take l).length=l:=by rw [List.length_take];omega
 refine ⟨fun z hz'=>yW (hwz z (List.mem_of_mem_take hz')),hlen,⟨some ⟨b,o,none⟩,c,by rw [hlen],by rw [hlen];exact hl,.inr ⟨b,o,rfl,hb,fun i hi => ?_⟩⟩⟩
 rw [hlen] at hi
 have h1:=hcell i (by omega)
 rw [bL] at h1
 rw [h1]
 unfold gi
 simp only [List.getD_eq_getElem?_getD,List.getElem?_take,if_pos hi]
theorem xr {H:Type} {enc:TypeId × Value→H} {W:World} {base:Nat} {a:Option Addr} {l c:Nat} {d:DataW H} {p:List MemPlace} (hv:Value.okWide Tryz.prog W .any base 23 (.slice a l c))
  (h:DataW.Trod enc Tryz.prog W 0 (fun _=>true) true 23 (.slice a l c) d p) :
  ∃ xs,Byt xs∧xs.length=l∧Sl W (.slice a l c) xs∧((d = .nil∧l=0) ∨ ∃ es sp,d = .slice es sp∧es.length+sp.length=c∧l≤c):=by
 obtain ⟨fuel,hf⟩:=h
 rcases open_ints Tryz.underlying23 Tryz.underlying5 (by kernel_rfl) hf with ⟨hcs,hx⟩ | ⟨x,l',c',zs,hcs,_,hl,hm,hz,hx,hcell,hwz⟩
 ·simp [Value.cells] at hcs
  obtain ⟨rfl,rfl,rfl⟩:=hcs
  exact ⟨[],Byt.nil,rfl,⟨none,0,rfl,Nat.le_refl _,.inl ⟨rfl,fun _=>rfl⟩⟩,.inl ⟨congrArg Prod.fst hx,rfl⟩⟩
 ·simp [Value.cells] at hcs
  obtain ⟨rfl,rfl,rfl⟩:=hcs
  obtain ⟨hs,hb⟩:=ux Tryz.underlying23 hv
  obtain ⟨b,o,sp⟩:=x
  obtain rfl:sp=none:=hs
  have hz':zs.length=c:=by simpa using hz
  obtain ⟨h1,h2,h3⟩:=MK hb hl hz' hcell hwz
  refine ⟨_,h1,h2,h3,.inr ⟨_,_,congrArg Prod.fst hx,?_,hl⟩⟩
  simp only [lits,List.length_map,List.length_take,List.length_drop];omega
end Go.Proofs.YtajehiidpecknaaGreatDoor.Wi
