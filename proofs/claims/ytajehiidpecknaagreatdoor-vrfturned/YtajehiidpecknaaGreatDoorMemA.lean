import Derived.Test.YtajehiidpecknaaGreatDoorProg
import Derived.Test.YtajehiidpecknaaGreatDoorChecked
import Derived.WalkKit
import Derived.Orders
import Derived.Deep.MidRow
import Derived.Test.YtajehiidpecknaaGreatDoorSho
set_option linter.all false
namespace Go.Proofs.YtajehiidpecknaaGreatDoor
open Go Go.RowKit
structure BT where
 id:TypeId
 fz:Nat × Nat
deriving DecidableEq
instance (n:Nat):OfNat BT n:=⟨⟨n,(0,0)⟩⟩
instance:Coe Nat BT:=⟨fun n=>⟨n,(0,0)⟩⟩
structure Blk where
 cells:List Value
 ty:BT
abbrev Mem:=List (Option Blk)
def bn (m:Mem) (b:Nat):Option Blk:=(m[b]?).getD none
abbrev Ren:=Nat→Option Nat
def Le (r r':Ren):Prop := ∀ b c,r b=some c→r' b=some c
theorem Le.refl (r:Ren):Le r r:=fun _ _ h=>h
theorem Le.trans {r r' r'':Ren} (h:Le r r') (k:Le r' r''):Le r r'':=fun b c e=>k b c (h b c e)
def upd (r:Ren) (i c:Nat):Ren:=fun b=>if b=i then some c else r b
theorem rX {r:Ren} {i c:Nat} (h:r i=none):Le r (upd r i c):=fun b d e=>by
 unfold upd
 split
 ·rename_i hb;subst hb;rw [h] at e;cases e
 ·exact e
theorem gz (m:Mem) (i b:Nat) (x:Option Blk):bn (m.set i x) b=if b=i∧i<m.length then x else bn m b:=by
 unfold bn
 rw [List.getElem?_set]
 by_cases h:i=b
 ·subst h
  by_cases hl:i<m.length
  ·simp [hl]
  ·simp [hl,List.getElem?_eq_none (Nat.le_of_not_lt hl)]
 ·have : ¬ (b=i∧i<m.length):=fun e=>h e.1.symm
  rw [if_neg h,if_neg this]
theorem je {m:Mem} {b:Nat} {B:Blk} (h:bn m b=some B):b<m.length:=by
 unfold bn at h
 rcases Nat.lt_or_ge b m.length with hl | hl
 ·exact hl
 ·rw [List.getElem?_eq_none hl] at h;cases h
theorem k9 {m:Mem} {b:Nat} (h:m[b]? = some none):bn m b=none:=by unfold bn;rw [h];rfl
theorem uw (m:Mem) (k b:Nat):bn (m ++ List.replicate k none) b=bn m b:=by
 unfold bn
 rcases Nat.lt_or_ge b m.length with hl | hl
 ·rw [List.getElem?_append_left hl]
 ·rw [List.getElem?_append_right hl,List.getElem?_eq_none hl,List.getElem?_replicate]
  split <;> rfl
def flat1:Value→Bool
 | .bool _=>true
 | .int _ _=>true
 | .float _ _=>true
 | .complex _ _ _=>true
 | .string _=>true
 | .pointer none=>true
 | .slice none _ _=>true
 | .map none=>true
 | .chan none=>true
 | .nilFunc=>true
 | .nilIface=>true
 | _=>false
def flat2:Value→Bool
 | .agg cs=>cs.toList.all flat1
 | v=>flat1 v
def flat:Value→Bool
 | .tuple vs=>vs.size != 1 && vs.toList.all flat2
 | v=>flat2 v
def notBool:Value→Bool
 | .bool _=>false
 | _=>true
def tr1 (r:Ren):Value→Option Value
 | .pointer (some a)=>(r a.block).map fun b => .pointer (some ⟨b,a.off,a.spot⟩)
 | .slice (some a) l c=>(r a.block).map fun b => .slice (some ⟨b,a.off,a.spot⟩) l c
 | .tuple vs=>match vs.toList with
  | [v]=>if v.oneCell' && notBool v then some v else none
  | _=>none
 | v=>if flat1 v then some v else none
def trL (f:Value→Option Value):List Value→Option (List Value)
 | []=>some []
 | v :: r=>match f v,trL f r with
  | some v',some r'=>some (v' :: r')
  | _,_=>none
def tr2 (r:Ren):Value→Option Value
 | .agg cs=>(trL (tr1 r) cs.toList).map fun l => .agg l.toArray
 | v=>tr1 r v
def tr (r:Ren):Value→Option Value
 | .tuple vs=>if vs.size=1 then tr1 r (.tuple vs) else (trL (tr2 r) vs.toList).map fun l => .tuple l.toArray
 | v=>tr2 r v
theorem bZ {f:Value→Option Value} {v:Value} {l l':List Value} (h:trL f (v :: l)=some l') : ∃ v' r',f v=some v'∧trL f l=some r'∧l'=v' :: r':=by
 simp only [trL] at h
 split at h
 ·rename_i v' r' h1 h2
  exact ⟨v',r',h1,h2,by simpa using h.symm⟩
 ·simp at h
theorem cO {f:Value→Option Value} {v v':Value} {l l':List Value} (h:f v=some v') (h':trL f l=some l'):trL f (v :: l)=some (v' :: l'):=by
 simp only [trL,h,h']
theorem eQ {f:Value→Option Value} : ∀ {l l':List Value},trL f l=some l'→l'.length=l.length
 | [],l',h=>by simp only [trL,qG] at h;subst h;rfl
 | v :: l,l',h=>by
  obtain ⟨v',r',_,h2,rfl⟩:=bZ h
  simp [eQ h2]
theorem tj {f:Value→Option Value} : ∀ {l l':List Value},trL f l=some l' → ∀ {i:Nat} {v:Value},l[i]? = some v → ∃ v',f v=some v'∧l'[i]? = some v'
 | [],_,_,i,v,hi=>by simp at hi
 | x :: l,l',h,i,v,hi=>by
  obtain ⟨v',r',h1,h2,rfl⟩:=bZ h
  cases i with
  | zero=>simp at hi;subst hi;exact ⟨v',h1,rfl⟩
  | succ i=>simp at hi;simpa using tj h2 hi
theorem gB {f g:Value→Option Value} (hfg : ∀ v v',f v=some v'→g v=some v') : ∀ {l l':List Value},trL f l=some l'→trL g l=some l'
 | [],_,h=>h
 | v :: l,l',h=>by
  obtain ⟨v',r',h1,h2,rfl⟩:=bZ h
  exact cO (hfg _ _ h1) (gB hfg h2)
theorem yP {f:Value→Option Value} {u u':Value} (hu:f u=some u') : ∀ {l l':List Value} (i:Nat),trL f l=some l'→trL f (l.set i u)=some (l'.set i u')
 | [],l',i,h=>by simp only [trL,qG] at h;subst h;rfl
 | v :: l,l',i,h=>by
  obtain ⟨v',r',h1,h2,rfl⟩:=bZ h
  cases i with
  | zero=>exact cO hu h2
  | succ i=>exact cO h1 (yP hu i h2)
theorem j9 {f:Value→Option Value} : ∀ {l l' k k':List Value},trL f l=some l'→trL f k=some k'→trL f (l ++ k)=some (l' ++ k')
 | [],l',k,k',h,hk=>by simp only [trL,qG] at h;subst h;exact hk
 | v :: l,l',k,k',h,hk=>by
  obtain ⟨v',r',h1,h2,rfl⟩:=bZ h
  exact cO h1 (j9 h2 hk)
theorem nR {f:Value→Option Value} : ∀ {l l':List Value} (n:Nat),trL f l=some l'→trL f (l.drop n)=some (l'.drop n)
 | l,l',0,h=>h
 | [],l',n+1,h=>by simp only [trL,qG] at h;subst h;rfl
 | v :: l,l',n+1,h=>by
  obtain ⟨v',r',_,h2,rfl⟩:=bZ h
  exact nR n h2
theorem pa {f:Value→Option Value} : ∀ {l l':List Value} (n:Nat),trL f l=some l'→trL f (l.take n)=some (l'.take n)
 | l,l',0,_=>rfl
 | [],l',n+1,h=>by simp only [trL,qG] at h;subst h;rfl
 | v :: l,l',n+1,h=>by
  obtain ⟨v',r',h1,h2,rfl⟩:=bZ h
  exact cO h1 (pa n h2)
theorem ee {f:Value→Option Value} {p:Value→Bool} (hp : ∀ v,p v=true→f v=some v) : ∀ {l:List Value},l.all p=true→trL f l=some l
 | [],_=>rfl
 | v :: l,h=>by
  simp only [List.all_cons,Bool.and_eq_true] at h
  exact cO (hp v h.1) (ee hp h.2)
theorem mG {f:Value→Option Value} : ∀ {l l':List Value},trL f l=some l' → ∀ v' ∈ l',∃ v,f v=some v'
 | [],_,h,v',hm=>by simp only [trL,qG] at h;subst h;cases hm
 | v :: l,l',h,v',hm=>by
  obtain ⟨x,r',h1,h2,rfl⟩:=bZ h
  rcases List.mem_cons.1 hm with rfl | hm
  ·exact ⟨v,h1⟩
  ·exact mG h2 v' hm
theorem eA (r:Ren) (v:Value) (h:flat1 v=true):tr1 r v=some v:=by
 unfold tr1
 split
 ·simp [flat1] at h
 ·simp [flat1] at h
 ·simp [flat1] at h
 ·simp [h]
theorem nZ (r:Ren) (v:Value) (h:flat2 v=true):tr2 r v=some v:=by
 unfold tr2
 split
 ·simp only [flat2] at h
  rw [ee (eA r) h];rfl
 ·rename_i hn
  refine eA r v ?_
  unfold flat2 at h
  split at h
  ·rename_i cs;exact absurd rfl (hn cs)
  ·exact h
theorem cd (r:Ren) (v:Value) (h:flat v=true):tr r v=some v:=by
 unfold tr
 split
 ·simp only [flat,Bool.and_eq_true,bne_iff_ne,ne_eq] at h
  rw [if_neg h.1,ee (nZ r) h.2];rfl
 ·rename_i hn
  refine nZ r v ?_
  unfold flat at h
  split at h
  ·rename_i cs;exact absurd rfl (hn cs)
  ·exact h
theorem gd {r r':Ren} (hl:Le r r') (v v':Value) (h:tr1 r v=some v'):tr1 r' v=some v':=by
 unfold tr1 at h ⊢
 split at h
 ·rename_i a
  cases hb:r a.block with
  | none=>simp [hb] at h
  | some c=>simp only [hb,YO] at h;simp only [hl _ _ hb,YO];exact h
 ·rename_i a _ _
  cases hb:r a.block with
  | none=>simp [hb] at h
  | some c=>simp only [hb,YO] at h;simp only [hl _ _ hb,YO];exact h
 ·exact h
 ·exact h
theorem tY {r r':Ren} (hl:Le r r') (v v':Value) (h:tr2 r v=some v'):tr2 r' v=some v':=by
 unfold tr2 at h ⊢
 split at h
 ·rename_i cs
  cases hb:trL (tr1 r) cs.toList with
  | none=>simp [hb] at h
  | some k=>simp only [hb,YO] at h;simp only [gB (gd hl) hb,YO];exact h
 ·exact gd hl _ _ h
theorem IM {r r':Ren} (hl:Le r r') (v v':Value) (h:tr r v=some v'):tr r' v=some v':=by
 unfold tr at h ⊢
 split at h
 ·rename_i cs
  split at h
  ·rename_i h1
   rw [if_pos h1];exact gd hl _ _ h
  ·rename_i h1
   rw [if_neg h1]
   cases hb:trL (tr2 r) cs.toList with
   | none=>simp [hb] at h
   | some k=>simp only [hb,YO] at h;simp only [gB (tY hl) hb,YO];exact h
 ·exact tY hl _ _ h
theorem nc {r:Ren} {v v':Value} (h:tr1 r v=some v'):v'.oneCell'=true:=by
 unfold tr1 at h
 split at h
 ·rename_i a;cases hb:r a.block <;> simp [hb] at h;subst h;rfl
 ·rename_i a _ _;cases hb:r a.block <;> simp [hb] at h;subst h;rfl
 ·split at h
  ·split at h
   ·rename_i h1
    simp only [qG] at h;subst h
    simp only [Bool.and_eq_true] at h1;exact h1.1
   ·simp at h
  ·simp at h
 ·split at h
  ·rename_i hf
   simp only [qG] at h;subst h
   cases v <;> simp_all [flat1,Value.oneCell']
  ·simp at h
theorem ll {r:Ren} {v v':Value} (h:tr2 r v=some v'):trL (tr1 r) v.cells.toList=some v'.cells.toList:=by
 unfold tr2 at h
 split at h
 ·rename_i cs
  cases hb:trL (tr1 r) cs.toList with
  | none=>simp [hb] at h
  | some k=>simp only [hb,YO,qG] at h;subst h;simpa [Value.cells] using hb
 ·rename_i hn
  have h1:=nc h
  have e1:v.cells = #[v]:=by cases v <;> first | rfl | exact absurd rfl (hn _)
  have e2:v'.cells = #[v']:=by cases v' <;> first | rfl | simp [Value.oneCell'] at h1
  rw [e1,e2]
  exact cO h rfl
structure Rel (r:Ren) (m:Mem) (w:World):Prop where
 cells : ∀ (b:Nat) (B:Blk),bn m b=some B → ∃ c cs,r b=some c∧trL (tr1 r) B.cells=some cs∧w.heap[c]? = some (.cells cs.toArray B.ty.id B.ty.fz)
 full : ∀ (b c:Nat),r b=some c → ∃ B,bn m b=some B
 inj : ∀ (b b' c:Nat),r b=some c→r b'=some c→b=b'
structure Fr (r:Ren) (w w':World):Prop where
 os:w'.os=w.os
 tape:w'.tape=w.tape
 output:w'.output=w.output
 size:w.heap.size≤w'.heap.size
 block : ∀ k,k<w.heap.size→(∀ b:Nat,r b≠some k)→w'.heap[k]? = w.heap[k]?
theorem Fr.refl (r:Ren) (w:World):Fr r w w:=⟨rfl,rfl,rfl,Nat.le_refl _,fun _ _ _=>rfl⟩
theorem Rel.lt {r:Ren} {m:Mem} {w:World} (h:Rel r m w) {b c:Nat} (hb:r b=some c):c<w.heap.size:=by
 obtain ⟨B,hB⟩:=h.full b c hb
 obtain ⟨c',cs,h1,_,h3⟩:=h.cells b B hB
 rw [hb] at h1
 cases h1
 exact (YM.1 h3).1
theorem Rel.below {r:Ren} {m:Mem} {w w':World} (h:Rel r m w) (hb:Below w.heap.size w w'):Rel r m w' :=
 ⟨fun b B hB=>by
  obtain ⟨c,cs,h1,h2,h3⟩:=h.cells b B hB
  exact ⟨c,cs,h1,h2,by rw [hb.block c (h.lt h1)];exact h3⟩,h.full,h.inj⟩
theorem Rel.heap {r:Ren} {m:Mem} {w w':World} (h:Rel r m w) (hb:w'.heap=w.heap):Rel r m w' :=
 ⟨fun b B hB=>by rw [hb];exact h.cells b B hB,h.full,h.inj⟩
theorem Rel.reserve {r:Ren} {m:Mem} {w:World} (h:Rel r m w) (k:Nat):Rel r (m ++ List.replicate k none) w :=
 ⟨fun b B hB=>by rw [uw] at hB;exact h.cells b B hB,fun b c hc=>by rw [uw];exact h.full b c hc,h.inj⟩
theorem Rel.hole {r:Ren} {m:Mem} {w:World} (h:Rel r m w) {i:Nat} (hi:m[i]? = some none):r i=none:=by
 cases hr:r i with
 | none=>rfl
 | some c =>
  obtain ⟨B,hB⟩:=h.full i c hr
  rw [k9 hi] at hB;cases hB
theorem Rel.alloc {r:Ren} {m:Mem} {w:World} (h:Rel r m w) {i:Nat} (hi:m[i]? = some none) {l l':List Value} (t:TypeId) (hl:trL (tr1 r) l=some l') :
  Rel (upd r i w.heap.size) (m.set i (some ⟨l,⟨t,(0,0)⟩⟩)) (w.alloc (.cells l'.toArray t)):=by
 have hr:=h.hole hi
 have hle:=rX (c:=w.heap.size) hr
 have hlt:i<m.length:=(List.getElem?_eq_some_iff.1 hi).1
 refine ⟨fun b B hB => ?_,fun b c hc => ?_,fun b b' c h1 h2 => ?_⟩
 ·rw [gz] at hB
  split at hB
  ·rename_i e
   obtain ⟨rfl,_⟩:=e
   cases hB
   exact ⟨w.heap.size,l',by simp [upd],gB (gd hle) hl,by show (w.heap.push _)[w.heap.size]? = _;simp⟩
  ·obtain ⟨c,cs,h1,h2,h3⟩:=h.cells b B hB
   refine ⟨c,cs,hle _ _ h1,gB (gd hle) h2,?_⟩
   rw [Below.heap_alloc _ _ _ (h.lt h1)];exact h3
 ·rw [gz]
  by_cases e:b=i
  ·rw [if_pos ⟨e,hlt⟩];exact ⟨_,rfl⟩
  ·rw [if_neg (fun x=>e x.1)]
   unfold upd at hc
   rw [if_neg e] at hc
   exact h.full b c hc
 ·unfold upd at h1 h2
  split at h1 <;> split at h2
  ·rename_i e1 e2;rw [e1,e2]
  ·cases h1;have:=h.lt h2;omega
  ·cases h2;have:=h.lt h1;omega
  ·exact h.inj b b' c h1 h2
def setL:List Value→Nat→List Value→List Value
 | l,_,[]=>l
 | l,o,v :: r=>setL (l.set o v) (o+1) r
def pJ (l:List Value) (o:Nat) (vs:List Value):List Value:=l.take o ++ (vs ++ l.drop (o+vs.length))
theorem vG : ∀ (vs l:List Value) (o:Nat),o+vs.length≤l.length→setL l o vs=pJ l o vs
 | [],l,o,h=>by simp [setL,pJ]
 | v :: r,l,o,h=>by
  simp only [List.length_cons] at h
  have ho:o<l.length:=by omega
  rw [setL,vG r (l.set o v) (o+1) (by simp;omega)]
  unfold pJ
  have e1:(l.set o v).take (o+1)=l.take o ++ [v]:=by
   rw [List.take_add_one,List.take_set_of_le (Nat.le_refl o)]
   simp [ho]
  have e2:(l.set o v).drop (o+1+r.length)=l.drop (o+1+r.length):=List.drop_set_of_lt (by omega)
  rw [e1,e2,List.length_cons,show o+(r.length+1)=o+1+r.length by omega]
  simp
theorem vO {f:Value→Option Value} : ∀ {vs vs' l l':List Value} (o:Nat),trL f vs=some vs'→trL f l=some l'→trL f (setL l o vs)=some (setL l' o vs')
 | [],vs',l,l',o,h,hl=>by simp only [trL,qG] at h;subst h;exact hl
 | v :: r,vs',l,l',o,h,hl=>by
  obtain ⟨v',r',h1,h2,rfl⟩:=bZ h
  exact vO (o+1) h2 (yP h1 o hl)
theorem fq (c:Nat) (t:BT) : ∀ (vs:List Value) (o:Nat) (l:List Value) (w:World),w.heap[c]? = some (.cells l.toArray t.id t.fz) →
  (w.setCells c o vs).heap[c]? = some (.cells (setL l o vs).toArray t.id t.fz)
 | [],_,_,_,h=>h
 | v :: r,o,l,w,h=>by
  simp only [World.setCells,setL]
  refine fq c t r (o+1) (l.set o v) _ ?_
  simp only [World.setCell,Array.getElem?_modify,if_true,h,YO]
  simp
theorem dh (c k:Nat) (hk:k≠c) : ∀ (vs:List Value) (o:Nat) (w:World),(w.setCells c o vs).heap[k]? = w.heap[k]?
 | [],_,_=>rfl
 | v :: r,o,w=>by
  simp only [World.setCells]
  rw [dh c k hk r (o+1)]
  exact Below.heap_setCell _ _ _ _ hk
theorem iH (c:Nat) : ∀ (vs:List Value) (o:Nat) (w:World),(w.setCells c o vs).heap.size=w.heap.size
 | [],_,_=>rfl
 | v :: r,o,w=>by
  simp only [World.setCells]
  rw [iH c r (o+1)]
  simp [World.setCell]
theorem jC (c:Nat) : ∀ (vs:List Value) (o:Nat) (w:World),(w.setCells c o vs).os=w.os∧(w.setCells c o vs).tape=w.tape∧(w.setCells c o vs).output=w.output
 | [],_,_=>⟨rfl,rfl,rfl⟩
 | v :: r,o,w=>by
  simp only [World.setCells]
  obtain ⟨h1,h2,h3⟩:=jC c r (o+1) (w.setCell ⟨c,o,none⟩ v)
  exact ⟨h1,h2,h3⟩
theorem Rel.store {r:Ren} {m:Mem} {w:World} (h:Rel r m w) {b c:Nat} {B:Blk} (hB:bn m b=some B) (hc:r b=some c) {vs vs':List Value} (o:Nat) (hv:trL (tr1 r) vs=some vs') :
  Rel r (m.set b (some ⟨setL B.cells o vs,B.ty⟩)) (w.setCells c o vs'):=by
 have hlt:=je hB
 refine ⟨fun b' B' hB' => ?_,fun b' c' hc' => ?_,h.inj⟩
 ·rw [gz] at hB'
  split at hB'
  ·rename_i e
   obtain ⟨rfl,_⟩:=e
   cases hB'
   obtain ⟨c',cs,h1,h2,h3⟩:=h.cells b' B hB
   rw [hc] at h1;cases h1
   exact ⟨c,setL cs o vs',hc,vO o hv h2,fq c B.ty vs' o cs w h3⟩
  ·rename_i e
   obtain ⟨c',cs,h1,h2,h3⟩:=h.cells b' B' hB'
   refine ⟨c',cs,h1,h2,?_⟩
   rw [dh c c' (fun e'=>e ⟨h.inj b' b c (e' ▸ h1) hc,hlt⟩)]
   exact h3
 ·rw [gz]
  by_cases e:b'=b
  ·rw [if_pos ⟨e,hlt⟩];exact ⟨_,rfl⟩
  ·rw [if_neg (fun x=>e x.1)];exact h.full b' c' hc'
def cT:Value := .tuple #[.tuple #[]]
def good:Value→Bool
 | .tuple ⟨[.tuple ⟨[]⟩]⟩=>false
 | _=>true
theorem Hl {v:Value} (h:good v=true):v≠cT:=by rintro rfl;simp [good,cT] at h
end Go.Proofs.YtajehiidpecknaaGreatDoor
