/- The reference's table of constants: what 'k512' answers. -/
import Derived.Test.YtajehiidpecknaaGreatDoorRefA
import Derived.Great.BuildSlice
import Derived.Test.YtajehiidpecknaaGreatDoorShaG
set_option linter.all false
namespace Go.Proofs.YtajehiidpecknaaGreatDoor.Sh.Q5
open Go Go.RowKit
set_option maxRecDepth 100000 in
set_option maxHeartbeats 1000000 in
theorem zf (w:World):Calls Tryz.prog 77 #[] w fun e w'=>e = .returned (.agg (cq aR 80))∧Below w.heap.size w w':=by
 have HT:Hid ((w.alloc (.cells (List.replicate 80 (Value.int .u64 0)).toArray 109)).there w.heap.size 0 (cq aR 80).size):=ao (heap_alloc_new _ _) 0 _ (by rw [aU];simp)
 have hz:=eW
 go_enter Tryz.func77,Tryz.ntmps77
 go_wp2_with (first | (refine wpList_buildTo rfl 109 _ rfl (some 1) rfl (cq aR 80) (by kernel_rfl) ?_) | (refine wpList_store_mid rfl 109 _ _ rfl w.heap.size 0 (cq aR 80) rfl rfl HT.out (by rw [aU];kernel_rfl) (by exact jA _ _) ?_))
 refine bodyPost_ret (v := .agg (cq aR 80)) ?_ rfl ⟨rfl,?_⟩
 ·exact aC Tryz.results77 _ _ w.heap.size 0 (cq aR 80).toList _ rfl (World.rangeAt_setCells_same _ _ _ _ HT.out) Tryz.underlying109 rfl (by rw [Array.length_toList,aU];kernel_rfl)
 ·exact af _ (Nat.le_refl _) _ _ _ ((Below.refl _ _).alloc (Nat.le_refl _) _)
end Go.Proofs.YtajehiidpecknaaGreatDoor.Sh.Q5
namespace Go.Proofs.YtajehiidpecknaaGreatDoor.Sh.Q5
open Go Go.RowKit
structure ORel (w wr:World) (kb g Z:Nat) (f:Nat→BitVec 8) (st:St):Prop where
 below:Below w.heap.size w wr
 res:wr.heap[w.heap.size]? = some (.cells zb 29 (0,0))
 hrow:wr.heap[w.heap.size+1]? = some (.cells st.row 86 (0,0))
 kpos:w.heap.size+2≤kb∧kb<wr.heap.size
 gpos:w.heap.size+2≤g∧g<wr.heap.size
 ktab : ∀ i,i<80→wr.cell? ⟨kb,i,none⟩=some (U (aR i))
 msg : ∀ i,i<Z→wr.cell? ⟨g,i,none⟩=some (B (f i))
theorem ORel.keep {w wr wr':World} {kb g Z:Nat} {f:Nat→BitVec 8} {st st':St} (h:ORel w wr kb g Z f st) (hs:wr.heap.size≤wr'.heap.size) (hb:Below w.heap.size w wr')
  (hk : ∀ k,k<wr.heap.size→k≠w.heap.size+1→wr'.heap[k]? = wr.heap[k]?) (hr:wr'.heap[w.heap.size+1]? = some (.cells st'.row 86 (0,0))):ORel w wr' kb g Z f st':=by
 have h1:=h.kpos
 have h2:=h.gpos
 refine ⟨hb,?_,hr,⟨h1.1,by omega⟩,⟨h2.1,by omega⟩,fun i hi => ?_,fun i hi => ?_⟩
 ·rw [hk _ (by omega) (by omega)];exact h.res
 ·rw [World.cell?_of_block (w:=wr) (a:=⟨kb,i,none⟩) (hk kb h1.2 (by omega))];exact h.ktab i hi
 ·rw [World.cell?_of_block (w:=wr) (a:=⟨g,i,none⟩) (hk g h2.2 (by omega))];exact h.msg i hi
theorem ORel.below' {w wr wr':World} {kb g Z:Nat} {f:Nat→BitVec 8} {st:St} (h:ORel w wr kb g Z f st) (hb:Below wr.heap.size wr wr'):ORel w wr' kb g Z f st :=
 h.keep hb.size (h.below.trans (hb.mono h.below.size)) (fun k hk _=>hb.block k hk) (by have:=h.kpos;rw [hb.block _ (by omega)];exact h.hrow)
structure WRel (w wr:World) (kb g Z:Nat) (f:Nat→BitVec 8) (st:St) (q:Nat) (W:Nat→BitVec 64) (k:Nat):Prop where
 base:ORel w wr kb g Z f st
 pos:kb<q∧g<q∧w.heap.size+2≤q
 row:wr.heap[q]? = some (.cells (cq W k) 109 (0,0))
theorem WRel.start {w wr:World} {kb g Z:Nat} {f:Nat→BitVec 8} {st:St} (h:ORel w wr kb g Z f st) (W:Nat→BitVec 64):WRel w (wr.alloc (.cells (List.replicate 80 (Value.int .u64 0)).toArray 109)) kb g Z f st wr.heap.size W 0 :=
 ⟨h.below' ((Below.refl _ _).alloc (Nat.le_refl _) _),⟨h.kpos.2,h.gpos.2,by have:=h.kpos;omega⟩,by rw [oo];exact heap_alloc_new _ _⟩
theorem WRel.cell {w wr:World} {kb g Z:Nat} {f:Nat→BitVec 8} {st:St} {q:Nat} {W:Nat→BitVec 64} {k:Nat} (h:WRel w wr kb g Z f st q W k) (i:Nat) (hi:i<80):wr.cell? ⟨q,i,none⟩=some (U (upto W k i)):=by
 rw [cell_of_row wr _ i _ _ _ h.row];exact dH W k i hi
theorem WRel.froz {w wr:World} {kb g Z:Nat} {f:Nat→BitVec 8} {st:St} {q:Nat} {W:Nat→BitVec 64} {k:Nat} (h:WRel w wr kb g Z f st q W k) (i:Nat):wr.frozen? ⟨q,i,none⟩=false:=frozen_of_row _ _ _ _ _ h.row
theorem ORel.setAbove {w wr:World} {kb g Z:Nat} {f:Nat→BitVec 8} {st:St} (h:ORel w wr kb g Z f st) (q i:Nat) (v:Value) (hq:kb<q∧g<q∧w.heap.size+2≤q):ORel w (wr.setCell ⟨q,i,none⟩ v) kb g Z f st:=by
 have h1:=h.kpos
 have h2:=h.gpos
 refine ⟨h.below.setCell (by simp only;omega) _,?_,?_,⟨h1.1,by rw [size_setCell];exact h1.2⟩,⟨h2.1,by rw [size_setCell];exact h2.2⟩,fun j hj => ?_,fun j hj => ?_⟩
 ·rw [heap_setCell_other _ _ _ _ (by simp only;omega)];exact h.res
 ·rw [heap_setCell_other _ _ _ _ (by simp only;omega)];exact h.hrow
 ·rw [gX _ _ _ _ _ _ (by omega)];exact h.ktab j hj
 ·rw [gX _ _ _ _ _ _ (by omega)];exact h.msg j hj
theorem WRel.set {w wr:World} {kb g Z:Nat} {f:Nat→BitVec 8} {st:St} {q:Nat} {W:Nat→BitVec 64} {k:Nat} (h:WRel w wr kb g Z f st q W k):WRel w (wr.setCell ⟨q,k,none⟩ (U (W k))) kb g Z f st q W (k+1) :=
 ⟨h.base.setAbove q k _ h.pos,h.pos,by rw [heap_setCell_same _ _ _ _ _ _ h.row,mZ]⟩
theorem ORel.drewN {w wr:World} {kb g Z:Nat} {f:Nat→BitVec 8} {st:St} (h:ORel w wr kb g Z f st) (n:Nat):ORel w (wr.drewN n) kb g Z f st :=
 ⟨eU h.below n,h.res,h.hrow,h.kpos,h.gpos,h.ktab,h.msg⟩
theorem WRel.drewN {w wr:World} {kb g Z:Nat} {f:Nat→BitVec 8} {st:St} {q:Nat} {W:Nat→BitVec 64} {k:Nat} (h:WRel w wr kb g Z f st q W k) (n:Nat):WRel w (wr.drewN n) kb g Z f st q W k :=
 ⟨h.base.drewN n,h.pos,h.row⟩
structure RRel (w wr:World) (kb g Z:Nat) (f:Nat→BitVec 8) (st:St) (q:Nat) (W:Nat→BitVec 64) (p:Nat) (r:St):Prop where
 base:WRel w wr kb g Z f st q W 80
 pos:q<p
 row:wr.heap[p]? = some (.cells r.row 86 (0,0))
theorem RRel.start {w wr:World} {kb g Z:Nat} {f:Nat→BitVec 8} {st:St} {q:Nat} {W:Nat→BitVec 64} (h:WRel w wr kb g Z f st q W 80) (r:St):RRel w (wr.alloc (.cells r.row 86)) kb g Z f st q W wr.heap.size r:=by
 have hb:Below wr.heap.size wr (wr.alloc (.cells r.row 86)):=(Below.refl _ _).alloc (Nat.le_refl _) _
 have hq:q<wr.heap.size:=(Array.getElem?_eq_some_iff.1 h.row).1
 exact ⟨⟨h.base.below' hb,h.pos,by rw [hb.block q hq];exact h.row⟩,hq,heap_alloc_new _ _⟩
theorem RRel.put {w wr:World} {kb g Z:Nat} {f:Nat→BitVec 8} {st:St} {q:Nat} {W:Nat→BitVec 64} {p:Nat} {r:St} (h:RRel w wr kb g Z f st q W p r) (t:St):RRel w (wr.setCells p 0 t.row.toList) kb g Z f st q W p t:=by
 have h1:=h.base.base.kpos
 have h2:=h.base.base.gpos
 have h3:=h.base.pos
 have h4:=h.pos
 have hq:q<wr.heap.size:=(Array.getElem?_eq_some_iff.1 h.base.row).1
 have hh:=af (B0:=p) (a:=wr) p (Nat.le_refl _) t.row.toList 0 wr (Below.refl _ _)
 refine ⟨⟨⟨h.base.base.below.trans (hh.mono (by omega)),?_,?_,⟨h1.1,Nat.lt_of_lt_of_le h1.2 hh.size⟩,⟨h2.1,Nat.lt_of_lt_of_le h2.2 hh.size⟩,fun i hi => ?_,fun i hi => ?_⟩,h3,?_⟩,h4,jt h.row rfl t⟩
 ·rw [hh.block _ (by omega)];exact h.base.base.res
 ·rw [hh.block _ (by omega)];exact h.base.base.hrow
 ·rw [hh.cell (p:=⟨kb,i,none⟩) (by show kb<p;omega)];exact h.base.base.ktab i hi
 ·rw [hh.cell (p:=⟨g,i,none⟩) (by show g<p;omega)];exact h.base.base.msg i hi
 ·rw [hh.block _ (by omega)];exact h.base.row
theorem RRel.drewN {w wr:World} {kb g Z:Nat} {f:Nat→BitVec 8} {st:St} {q:Nat} {W:Nat→BitVec 64} {p:Nat} {r:St} (h:RRel w wr kb g Z f st q W p r) (n:Nat):RRel w (wr.drewN n) kb g Z f st q W p r :=
 ⟨h.base.drewN n,h.pos,h.row⟩
def St.mk8 (s:Nat→BitVec 64):St:=⟨s 0,s 1,s 2,s 3,s 4,s 5,s 6,s 7⟩
def part (s t:St) (i:Nat):St:=St.mk8 fun j=>if j<i then s.at j+t.at j else s.at j
theorem x9 (s t:St):part s t 0=s:=by cases s;rfl
theorem uZ (s t:St):part s t 8=plus s t:=by cases s;cases t;rfl
theorem GM (s:Nat→BitVec 64) : ∀ i,i<8→(St.mk8 s).at i=s i
 | 0,_=>rfl
 | 1,_=>rfl
 | 2,_=>rfl
 | 3,_=>rfl
 | 4,_=>rfl
 | 5,_=>rfl
 | 6,_=>rfl
 | 7,_=>rfl
theorem EX {s:St} {cs:Array Value} (hs:cs.size=8) (h : ∀ i,i<8→cs[i]? = some (U (s.at i))):cs=s.row:=by
 apply Array.ext_getElem?
 intro i
 by_cases hi:i<8
 ·rw [h i hi,jw s i hi]
 ·rw [Array.getElem?_eq_none (by omega),Array.getElem?_eq_none (by simp [St.row];omega)]
theorem qc (s t:St) (i j:Nat) (hj:j<8):(part s t i).at j=if j<i then s.at j+t.at j else s.at j:=GM _ j hj
theorem AG (s t:St) (i:Nat):(part s t i).row.setIfInBounds i (U (s.at i+t.at i))=(part s t (i+1)).row:=by
 refine EX (by simp [St.row]) (fun j hj => ?_)
 rw [Array.getElem?_setIfInBounds,qc _ _ _ _ hj]
 by_cases e:i=j
 ·subst e;rw [if_pos rfl,if_pos (by simp [St.row];omega),if_pos (by omega)]
 ·rw [if_neg e,jw _ j hj,qc _ _ _ _ hj]
  by_cases h1:j<i
  ·rw [if_pos h1,if_pos (by omega)]
  ·rw [if_neg h1,if_neg (by omega)]
theorem ORel.start {w w1 w2 w3:World} {v:Value} {Z g c:Nat} {f:Nat→BitVec 8} (C:Array Value) (hC:C.size=80)
  (hb1:Below (w.heap.size+2) ((w.alloc (.cells zb 29)).alloc (.cells bQ.row 86)) w1)
  (hw2:w2=(w1.alloc (.cells C 109)).setCells w1.heap.size 0 (cq aR 80).toList) (ho:Own w2 w3 v Z f) (hZ:0<Z) (hv:v = .slice (some ⟨g,0,none⟩) Z c):ORel w w3 w1.heap.size g Z f bQ:=by
 obtain ⟨g',c',hv',hg1,hg2,_,hcell⟩:=ho.form hZ
 rw [hv] at hv'
 cases hv'
 have hs:=hb1.size
 have hs0:((w.alloc (.cells zb 29)).alloc (.cells bQ.row 86)).heap.size=w.heap.size+2:=by simp
 rw [hs0] at hs
 have b12:Below w1.heap.size w1 w2:=by rw [hw2];exact af _ (Nat.le_refl _) _ _ _ ((Below.refl _ _).alloc (Nat.le_refl _) _)
 have hz2:w1.heap.size<w2.heap.size:=by
  rw [hw2]
  have:=(af (B0:=0) (a:=w1.alloc (.cells C 109)) w1.heap.size (Nat.zero_le _) (cq aR 80).toList 0 _ (Below.refl _ _)).size
  have e:(w1.alloc (.cells C 109)).heap.size=w1.heap.size+1:=by simp
  omega
 have b23:=ho.below
 have b13:Below w1.heap.size w1 w3:=b12.trans (b23.mono (by omega))
 have b03:Below (w.heap.size+2) ((w.alloc (.cells zb 29)).alloc (.cells bQ.row 86)) w3:=hb1.trans (b13.mono hs)
 have bw:Below w.heap.size w w3:=(((Below.refl _ _).alloc (Nat.le_refl _) _).alloc (by simp) _).trans (b03.mono (by omega))
 have hs23:=b23.size
 refine ⟨bw,?_,?_,⟨hs,by omega⟩,⟨by omega,hg2⟩,fun i hi => ?_,hcell⟩
 ·rw [b03.block _ (by omega)];exact heap_alloc2_old _ _ _
 ·rw [b03.block _ (by omega)];exact heap_alloc2_new _ _ _
 ·rw [b23.cell (p:=⟨w1.heap.size,i,none⟩) hz2,hw2]
  have:=World.rangeAt_setCells_same (w1.alloc (.cells C 109)) w1.heap.size 0 (cq aR 80).toList (ao (heap_alloc_new _ _) 0 _ (by rw [Array.length_toList,aU,hC];omega)) i (U (aR i)) (by rw [Array.getElem?_toList,dH _ _ _ hi,upto,if_pos hi])
  simpa using this
structure XRel (w wr:World) (kb g Z:Nat) (f:Nat→BitVec 8) (st:St) (q k:Nat):Prop where
 base:ORel w wr kb g Z f st
 pos:kb<q∧g<q∧w.heap.size+2≤q
 cell : ∀ i,i<64→wr.cell? ⟨q,i,none⟩=some (if i<k then B (cW st i) else B 0)
 froz : ∀ i,wr.frozen? ⟨q,i,none⟩=false
theorem XRel.start {w wr:World} {kb g Z:Nat} {f:Nat→BitVec 8} {st:St} (h:ORel w wr kb g Z f st):XRel w (wr.alloc (.cells zb 29)) kb g Z f st wr.heap.size 0 :=
 ⟨h.below' ((Below.refl _ _).alloc (Nat.le_refl _) _),⟨h.kpos.2,h.gpos.2,by have:=h.kpos;omega⟩,fun i hi=>by rw [World.cell?_alloc_at _ _ _ _ rfl,zb,List.getElem?_toArray,List.getElem?_replicate,if_pos hi,if_neg (Nat.not_lt_zero i)];rfl,fun i=>World.frozen?_alloc_at _ _ _ _ rfl⟩
theorem XRel.hcell {w wr:World} {kb g Z:Nat} {f:Nat→BitVec 8} {st:St} {q k:Nat} (h:XRel w wr kb g Z f st q k) (i:Nat) (hi:i<8):wr.cell? ⟨w.heap.size+1,i,none⟩=some (U (st.at i)):=by
 rw [cell_of_row wr _ i _ _ _ h.base.hrow];exact jw st i hi
theorem XRel.put {w wr:World} {kb g Z:Nat} {f:Nat→BitVec 8} {st:St} {q k:Nat} (h:XRel w wr kb g Z f st q k) (hk:k<64):XRel w (wr.setCell ⟨q,k,none⟩ (B (cW st k))) kb g Z f st q (k+1):=by
 refine ⟨h.base.setAbove q k _ h.pos,h.pos,fun i hi => ?_,fun i => ?_⟩
 ·have ht:wr.there q k 1:=fun j hj=>⟨by rw [show k+j=k by omega,h.cell k hk];rfl,h.froz _⟩
  have:=iM wr q k i [B (cW st k)] ht
  rw [World.setCells,World.setCells] at this
  rw [this,List.length_singleton]
  by_cases e:i=k
  ·subst e;rw [if_pos (by omega),if_pos (by omega),Nat.sub_self];rfl
  ·have hne : ¬ (k≤i∧i<k+1):=by omega
   rw [if_neg hne,h.cell i hi]
   by_cases h1:i<k
   ·rw [if_pos h1,if_pos (by omega)]
   ·rw [if_neg h1,if_neg (by omega)]
 ·have:=World.frozen?_setCells q [B (cW st k)] k wr ⟨q,i,none⟩
  rw [World.setCells,World.setCells] at this
  rw [this];exact h.froz i
theorem RRel.scell {w wr:World} {kb g Z:Nat} {f:Nat→BitVec 8} {st:St} {q:Nat} {W:Nat→BitVec 64} {p:Nat} {r:St} (h:RRel w wr kb g Z f st q W p r) (i:Nat) (hi:i<8):wr.cell? ⟨p,i,none⟩=some (U (r.at i)):=by
 rw [cell_of_row wr _ i _ _ _ h.row];exact jw r i hi
theorem RRel.hcell {w wr:World} {kb g Z:Nat} {f:Nat→BitVec 8} {st:St} {q:Nat} {W:Nat→BitVec 64} {p:Nat} {r:St} (h:RRel w wr kb g Z f st q W p r) (i:Nat) (hi:i<8):wr.cell? ⟨w.heap.size+1,i,none⟩=some (U (st.at i)):=by
 rw [cell_of_row wr _ i _ _ _ h.base.base.hrow];exact jw st i hi
theorem RRel.wcell {w wr:World} {kb g Z:Nat} {f:Nat→BitVec 8} {st:St} {q:Nat} {W:Nat→BitVec 64} {p:Nat} {r:St} (h:RRel w wr kb g Z f st q W p r) (i:Nat) (hi:i<80):wr.cell? ⟨q,i,none⟩=some (U (W i)):=by
 rw [h.base.cell i hi,upto,if_pos hi]
theorem RRel.seth {w wr:World} {kb g Z:Nat} {f:Nat→BitVec 8} {s:St} {q:Nat} {W:Nat→BitVec 64} {p:Nat} {r:St} {i:Nat} (h:RRel w wr kb g Z f (part s r i) q W p r):RRel w (wr.setCell ⟨w.heap.size+1,i,none⟩ (U (s.at i+r.at i))) kb g Z f (part s r (i+1)) q W p r:=by
 have h1:=h.base.base.kpos
 have h2:=h.base.base.gpos
 have h3:=h.base.pos
 have h4:=h.pos
 have hk : ∀ k,k≠w.heap.size+1→(wr.setCell ⟨w.heap.size+1,i,none⟩ (U (s.at i+r.at i))).heap[k]? = wr.heap[k]? := fun k hk=>heap_setCell_other _ _ _ _ hk
 refine ⟨⟨h.base.base.keep (by rw [size_setCell];exact Nat.le_refl _) (h.base.base.below.setCell (by simp) _) (fun k _ hne=>hk k hne) ?_,h3,?_⟩,h4,?_⟩
 ·rw [heap_setCell_same _ _ _ _ _ _ h.base.base.hrow,AG]
 ·rw [hk q (by omega)];exact h.base.row
 ·rw [hk p (by omega)];exact h.row
end Go.Proofs.YtajehiidpecknaaGreatDoor.Sh.Q5
