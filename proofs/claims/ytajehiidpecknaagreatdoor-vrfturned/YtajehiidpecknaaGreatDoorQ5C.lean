import Derived.Test.YtajehiidpecknaaGreatDoorShaA
import Derived.Deep.RegionHeld3
import Derived.Deep.MidRow
import Derived.Deep.DrawnRows
set_option linter.all false
namespace Go.Proofs.YtajehiidpecknaaGreatDoor.Sh.Q5
open Go Go.RowKit
attribute [local go_sem] ju jG nL jv
attribute [local go_sem ↓] Go.wp_at_zero Go.wp_at_succ
structure Sched (m:Nat→BitVec 8) (W:Nat→BitVec 64):Prop where
 first : ∀ t,t<16→W t=word fun i=>m (8*t+i)
 later : ∀ t,16≤t→t<80→W t=lo1 (W (t - 2))+W (t - 7)+lo0 (W (t - 15))+W (t - 16)
def upto (W:Nat→BitVec 64) (k i:Nat):BitVec 64:=if i<k then W i else 0
def cJ (W:Nat→BitVec 64) (k:Nat):Array Value:=((List.range 80).map fun i=>U (upto W k i)).toArray
theorem en (W:Nat→BitVec 64) (k i:Nat) (h:i<80):(cJ W k)[i]? = some (U (upto W k i)):=by
 simp [cJ,h]
theorem aZ (W:Nat→BitVec 64) (k:Nat):(cJ W k).size=80:=by simp [cJ]
theorem ow (W:Nat→BitVec 64) (k:Nat):(cJ W k).setIfInBounds k (U (W k))=cJ W (k+1):=by
 apply Array.ext_getElem?
 intro i
 by_cases hi:i<80
 ·rw [en W (k+1) i hi,Array.getElem?_setIfInBounds]
  by_cases e:k=i
  ·subst e;simp [aZ,hi,upto]
  ·rw [if_neg e,en W k i hi]
   have:upto W k i=upto W (k+1) i:=by
    unfold upto
    by_cases h1:i<k
    ·rw [if_pos h1,if_pos (by omega)]
    ·rw [if_neg h1,if_neg (by omega)]
   rw [this]
 ·rw [Array.getElem?_eq_none (by simp [aZ];omega),Array.getElem?_eq_none (by simp [aZ];omega)]
theorem kL (W:Nat→BitVec 64) (k:Nat):(cJ W k).all (·.oneCell')=true :=
 all_oneCell_toArray (fun v hv=>by
  obtain ⟨i,_,rfl⟩:=List.mem_map.1 hv
  rfl)
structure SRel (w wr:World) (W:Nat→BitVec 64) (k:Nat):Prop where
 below:Below w.heap.size w wr
 size:wr.heap.size=w.heap.size+2
 row:wr.heap[w.heap.size+1]? = some (.cells (cJ W k) 109 (0,0))
 res:wr.heap[w.heap.size]? = some (.cells (cJ W 0) 109 (0,0))
theorem SRel.start (w:World) (W:Nat→BitVec 64):SRel w ((w.alloc (.cells (cJ W 0) 109)).alloc (.cells (cJ W 0) 109)) W 0 :=
 ⟨((Below.refl _ _).alloc (Nat.le_refl _) _).alloc (by simp) _,by simp,heap_alloc2_new _ _ _,heap_alloc2_old _ _ _⟩
theorem SRel.cell {w wr:World} {W:Nat→BitVec 64} {k:Nat} (h:SRel w wr W k) (i:Nat) (hi:i<80):wr.cell? ⟨w.heap.size+1,i,none⟩=some (U (upto W k i)):=by
 rw [cell_of_row wr _ i _ _ _ h.row];exact en W k i hi
theorem SRel.frozen {w wr:World} {W:Nat→BitVec 64} {k:Nat} (h:SRel w wr W k) (i:Nat):wr.frozen? ⟨w.heap.size+1,i,none⟩=false:=frozen_of_row _ _ _ _ _ h.row
theorem SRel.drewN {w wr:World} {W:Nat→BitVec 64} {k:Nat} (h:SRel w wr W k) (n:Nat):SRel w (wr.drewN n) W k:=by
 induction n with
 | zero=>exact h
 | succ n ih=>exact ⟨ih.below.drew,ih.size,ih.row,ih.res⟩
theorem SRel.set {w wr:World} {W:Nat→BitVec 64} {k:Nat} (h:SRel w wr W k):SRel w (wr.setCell ⟨w.heap.size+1,k,none⟩ (U (W k))) W (k+1) :=
 ⟨h.below.setCell (by simp) _,by simp [World.setCell];exact h.size,by rw [heap_setCell_same _ _ _ _ _ _ h.row,ow],by rw [heap_setCell_other _ _ _ _ (by simp)];exact h.res⟩
theorem qd (W:Nat→BitVec 64):cJ W 0=(List.replicate 80 (Value.int .u64 0)).toArray:=by
 apply Array.ext_getElem?
 intro i
 by_cases hi:i<80
 ·rw [en W 0 i hi,List.getElem?_toArray,List.getElem?_replicate,if_pos hi,upto,if_neg (Nat.not_lt_zero i)];rfl
 ·rw [Array.getElem?_eq_none (by rw [aZ];omega),Array.getElem?_eq_none (by rw [List.size_toArray,List.length_replicate];omega)]
theorem jn (wr:World) (g k i:Nat) (v:Value) (h:i≠k):((wr.setCell ⟨g,k,none⟩ v).drew).cell? ⟨g,i,none⟩=wr.cell? ⟨g,i,none⟩ :=
 World.cell?_setCell_other _ _ _ _ (fun e=>h (by cases e;rfl))
theorem eP (w:World):(zeroValue 109).run Tryz.prog w = .ok (.agg (List.replicate 80 (Value.int .u64 0)).toArray) w:=by kernel_rfl
set_option maxRecDepth 100000 in
set_option maxHeartbeats 1000000 in
theorem wW (m:Nat→BitVec 8) (W:Nat→BitVec 64) (hW:Sched m W) (b off n cap:Nat) (hn:128≤n) (hcap:n≤cap) (w:World) (hm : ∀ i,i<128→w.cell? ⟨b,off+i,none⟩=some (B (m i))) :
  Calls Tryz.prog 102 #[.slice (some ⟨b,off,none⟩) n cap] w fun e w'=>e = .returned (.agg (cJ W 80))∧Below w.heap.size w w':=by
 have HM:Hid (∀ i,i<128→w.cell? ⟨b,off+i,none⟩=some (B (m i))):=hm
 have hb:b<w.heap.size:=block_lt_of_cell (hm 0 (by omega))
 clear hm
 have hst:=SRel.start w W
 rw [qd] at hst
 have HST:Hid (SRel w ((w.alloc (.cells (List.replicate 80 (Value.int .u64 0)).toArray 109)).alloc (.cells (List.replicate 80 (Value.int .u64 0)).toArray 109)) W 0):=hst
 clear hst
 have hz:=eP
 go_enter Tryz.func102,Tryz.ntmps102
 go_wp2
 go_loopw [4,6] (fun _ i wr => ∃ k:Nat,k≤16∧i = .int .i64 k∧SRel w wr W k) (fun _ i _=>16 - (intOf i).toNat)
 case atStart=>exact ⟨0,by omega,rfl,HST.out⟩
 case round =>
  obtain ⟨k,hk,rfl,hr⟩:=hrel
  by_cases hlt:k<16
  ·have s1 : ∀ i,i<8→wr.cell? ⟨b,off+8*k+i,none⟩=some (B (m (8*k+i))):=fun i hi=>(hr.below.cell (p:=⟨b,off+8*k+i,none⟩) hb).trans (by rw [Nat.add_assoc];exact HM.out (8*k+i) (by omega))
   have S1:Hid (∀ i,i<8→wr.cell? ⟨b,off+8*k+i,none⟩=some (B (m (8*k+i)))):=s1
   clear s1
   have c1:=hr.cell k (by omega)
   have f1:=hr.frozen k
   have HR:Hid (SRel w _ W k):=hr
   clear hr
   go_wp2_with fail
   refine (xR b (off+8*k) _ (by omega) (fun i=>m (8*k+i)) _ S1.out).mono ?_
   rintro e w' ⟨rfl,nq,rfl⟩
   rw [←hW.first k hlt]
   go_wp2
   go_roundw
   case rel=>exact ⟨k+1,by omega,by go_num,(HR.out.drewN nq).set⟩
   case measure=>simp [intOf];omega
  ·obtain rfl:k=16:=by omega
   have HR:Hid (SRel w wr W 16):=hr
   clear hr
   go_wp2
   go_loopw [5] (fun i wr => ∃ k:Nat,16≤k∧k≤80∧i = .int .i64 k∧SRel w wr W k) (fun i _=>80 - (intOf i).toNat)
   case atStart=>exact ⟨16,by omega,by omega,rfl,HR.out⟩
   case round =>
    obtain ⟨k,hk1,hk,rfl,hr⟩:=hrel
    by_cases hlt:k<80
    ·have e1:(2:Int)≤(k:Int):=by omega
     have e2:(7:Int)≤(k:Int):=by omega
     have e3:(15:Int)≤(k:Int):=by omega
     have e4:(16:Int)≤(k:Int):=by omega
     have l0:(k:Int)<80:=by omega
     have l1:(k:Int) - 2<80:=by omega
     have l2:(k:Int) - 7<80:=by omega
     have l3:(k:Int) - 15<80:=by omega
     have l4:(k:Int) - 16<80:=by omega
     have w1:IntKind.i64.wrap ((k:Int) - 2)=(k:Int) - 2:=by simp [IntKind.wrap,IntKind.bits,IntKind.signed];omega
     have w2:IntKind.i64.wrap ((k:Int) - 7)=(k:Int) - 7:=by simp [IntKind.wrap,IntKind.bits,IntKind.signed];omega
     have w3:IntKind.i64.wrap ((k:Int) - 15)=(k:Int) - 15:=by simp [IntKind.wrap,IntKind.bits,IntKind.signed];omega
     have w4:IntKind.i64.wrap ((k:Int) - 16)=(k:Int) - 16:=by simp [IntKind.wrap,IntKind.bits,IntKind.signed];omega
     have n1:k - 2≠k:=by omega
     have n2:k - 7≠k:=by omega
     have n3:k - 15≠k:=by omega
     have n4:k - 16≠k:=by omega
     have t1:((k:Int) - 2).toNat=k - 2:=by omega
     have t2:((k:Int) - 7).toNat=k - 7:=by omega
     have t3:((k:Int) - 15).toNat=k - 15:=by omega
     have t4:((k:Int) - 16).toNat=k - 16:=by omega
     have c1:=hr.cell k (by omega)
     have f1:=hr.frozen k
     have d1:=hr.cell (k - 2) (by omega)
     have d2:=hr.cell (k - 7) (by omega)
     have d3:=hr.cell (k - 15) (by omega)
     have d4:=hr.cell (k - 16) (by omega)
     rw [upto,if_pos (by omega)] at d1 d2 d3 d4
     have HR:Hid (SRel w _ W k):=hr
     clear hr
     go_wp2_with fail
     go_region_held3 (fun w'=>w'.cell? ⟨w.heap.size+1,k - 2,none⟩=some (U (W (k - 2)))∧w'.cell? ⟨w.heap.size+1,k - 7,none⟩=some (U (W (k - 7)))∧w'.cell? ⟨w.heap.size+1,k - 15,none⟩=some (U (W (k - 15)))∧w'.cell? ⟨w.heap.size+1,k - 16,none⟩=some (U (W (k - 16)))) (first | exact ⟨d1,d2,d3,d4⟩ | exact ⟨(jn _ _ _ _ _ n1).trans d1,(jn _ _ _ _ _ n2).trans d2,(jn _ _ _ _ _ n3).trans d3,(jn _ _ _ _ _ n4).trans d4⟩)
      (first | (go_at_call 132;refine (GP _ _).mono ?_;rintro e w' ⟨rfl,rfl⟩) | (go_at_call 133;refine (I9 _ _).mono ?_;rintro e w' ⟨rfl,rfl⟩))
     have hl:lo1 (W (k - 2))+W (k - 7)+lo0 (W (k - 15))+W (k - 16)=W k:=(hW.later k hk1 hlt).symm
     rw [hl]
     clear hl
     go_wp2
     go_roundw
     case rel =>
      (repeat apply Exists.intro)
      exact ⟨⟨k+1,by omega,by omega,by go_num,(HR.out.set).drewN 1⟩,rfl⟩
     case measure=>simp [intOf];omega
    ·obtain rfl:k=80:=by omega
     have HR:Hid (SRel w _ W 80):=hr
     have hrow:=hr.row
     clear hr
     have hres:=HR.out.res
     have ht:wr.there w.heap.size 0 (cJ W 80).size:=by rw [aZ];exact aw hres 0 80 (by rw [aZ];omega)
     have HT:Hid (wr.there w.heap.size 0 (cJ W 80).size):=ht
     clear ht hres
     go_wp2_with (first | (refine wpList_load_row rfl 109 _ rfl _ rfl _ _ _ _ hrow Tryz.underlying109 rfl (by rw [aZ];kernel_rfl) ?_) | (refine wpList_store_mid rfl 109 _ _ rfl w.heap.size 0 (cJ W 80) rfl rfl HT.out (by rw [aZ];kernel_rfl) (by exact kL W 80) ?_))
     refine bodyPost_ret (v := .agg (cJ W 80)) ?_ rfl ⟨rfl,?_⟩
     ·exact aN Tryz.results102 _ _ w.heap.size 0 (cJ W 80).toList _ rfl (World.rangeAt_setCells_same _ _ _ _ HT.out) Tryz.underlying109 rfl (by rw [Array.length_toList,aZ];kernel_rfl)
     ·exact af _ (Nat.le_refl _) _ _ _ HR.out.below
end Go.Proofs.YtajehiidpecknaaGreatDoor.Sh.Q5
namespace Go.Proofs.YtajehiidpecknaaGreatDoor.Sh.Q5
open Go Go.RowKit
structure St where
 a:BitVec 64
 b:BitVec 64
 c:BitVec 64
 d:BitVec 64
 e:BitVec 64
 f:BitVec 64
 g:BitVec 64
 h:BitVec 64
def tt1 (s:St) (k w:BitVec 64):BitVec 64:=s.h+up1 s.e+((s.e &&& s.f) ^^^ (~~~ s.e &&& s.g))+k+w
def tt2 (s:St):BitVec 64:=up0 s.a+((s.a &&& s.b) ^^^ (s.a &&& s.c) ^^^ (s.b &&& s.c))
def step (s:St) (k w:BitVec 64):St:=⟨tt1 s k w+tt2 s,s.a,s.b,s.c,s.d+tt1 s k w,s.e,s.f,s.g⟩
def rounds (K W:Nat→BitVec 64) (s:St):Nat→St
 | 0=>s
 | n+1=>step (rounds K W s n) (K n) (W n)
def plus (s t:St):St:=⟨s.a+t.a,s.b+t.b,s.c+t.c,s.d+t.d,s.e+t.e,s.f+t.f,s.g+t.g,s.h+t.h⟩
def St.row (s:St):Array Value := #[U s.a,U s.b,U s.c,U s.d,U s.e,U s.f,U s.g,U s.h]
theorem St.one (s:St):s.row.all (·.oneCell')=true :=
 all_oneCell_toArray (fun v hv=>by
  simp only [List.mem_cons,List.not_mem_nil,or_false] at hv
  rcases hv with h | h | h | h | h | h | h | h <;> (subst h;rfl))
theorem qz (x:BitVec 64):bits .xor .u64 (18446744073709551615:Int) (u x)=u (~~~ x):=by
 show IntKind.u64.wrap ((BitVec.ofInt 64 (18446744073709551615:Int) ^^^ BitVec.ofInt 64 (u x)).toNat:Int)=_
 rw [cE,show BitVec.ofInt 64 (18446744073709551615:Int)=BitVec.allOnes 64 by decide,BitVec.allOnes_xor];exact gT _
theorem tn (x:BitVec 64):bits .xor .u64 (if IntKind.u64.signed=true then -1 else IntKind.u64.max) (u x)=u (~~~ x):=qz x
structure MRel (w wr:World) (s:St) (W:Nat→BitVec 64) (p:Nat):Prop where
 below:Below w.heap.size w wr
 pos:w.heap.size+2≤p
 box:wr.heap[w.heap.size]? = some (.cells s.row 86 (0,0))
 res:wr.heap[w.heap.size+1]? = some (.cells (List.replicate 8 (Value.int .u64 0)).toArray 86 (0,0))
 row:wr.rangeAt p 0 (cJ W 80).toList
theorem MRel.drewN {w wr:World} {s:St} {W:Nat→BitVec 64} {p:Nat} (h:MRel w wr s W p) (n:Nat):MRel w (wr.drewN n) s W p :=
 ⟨fG h.below n,h.pos,h.box,h.res,h.row⟩
theorem MRel.start (w:World) (s:St) (W:Nat→BitVec 64) (w1:World) (Z:Array Value) (hZ:Z.size=80)
  (hb:Below (w.heap.size+2) ((w.alloc (.cells s.row 86)).alloc (.cells (List.replicate 8 (Value.int .u64 0)).toArray 86)) w1) :
  MRel w ((w1.alloc (.cells Z 109)).setCells w1.heap.size 0 (cJ W 80).toList) s W w1.heap.size:=by
 have hz:=hb.size
 simp at hz
 have b0:Below w.heap.size w w1:=(((Below.refl _ _).alloc (Nat.le_refl _) _).alloc (by simp) _).trans (hb.mono (by omega))
 have b1:Below w1.heap.size w1 ((w1.alloc (.cells Z 109)).setCells w1.heap.size 0 (cJ W 80).toList) :=
  af _ (Nat.le_refl _) _ _ _ ((Below.refl _ _).alloc (Nat.le_refl _) _)
 refine ⟨b0.trans (b1.mono (by omega)),hz,?_,?_,?_⟩
 ·rw [b1.block _ (by omega),hb.block _ (by omega)];exact heap_alloc2_old _ _ _
 ·rw [b1.block _ (by omega),hb.block _ (by omega)];exact heap_alloc2_new _ _ _
 ·exact World.rangeAt_setCells_same _ _ _ _ (aw (heap_alloc_new _ _) 0 _ (by rw [Array.length_toList,aZ,hZ];omega))
theorem MRel.cell {w wr:World} {s:St} {W:Nat→BitVec 64} {p:Nat} (h:MRel w wr s W p) (i:Nat) (hi:i<80):wr.cell? ⟨p,i,none⟩=some (U (W i)):=by
 have:=h.row i (U (W i)) (by rw [Array.getElem?_toList,en W 80 i hi,upto,if_pos hi])
 simpa using this
attribute [local go_sem] ju jG nL jv qz tn
set_option maxRecDepth 100000 in
set_option maxHeartbeats 1000000 in
theorem Bo (K:Nat→BitVec 64) (m:Nat→BitVec 8) (W:Nat→BitVec 64) (hW:Sched m W) (s:St) (b off n cap:Nat) (hn:128≤n) (hcap:n≤cap) (w:World) (hm : ∀ i,i<128→w.cell? ⟨b,off+i,none⟩=some (B (m i)))
  (hK : ∀ i,i<80→w.cell? ⟨3,i,none⟩=some (U (K i))) :
  Calls Tryz.prog 59 #[.agg s.row,.slice (some ⟨b,off,none⟩) n cap] w fun e w'=>e = .returned (.agg (plus s (rounds K W s 80)).row)∧Below w.heap.size w w':=by
 have hb:b<w.heap.size:=block_lt_of_cell (hm 0 (by omega))
 have hg:3<w.heap.size:=block_lt_of_cell (hK 0 (by omega))
 have HM:Hid (∀ i,i<128→w.cell? ⟨b,off+i,none⟩=some (B (m i))):=hm
 have HK:Hid (∀ i,i<80→w.cell? ⟨3,i,none⟩=some (U (K i))):=hK
 clear hm hK
 obtain ⟨sa,sb,sc,sd,se,sf,sg,sh⟩:=s
 unfold St.row
 have hz:=eP
 go_enter Tryz.func59,Tryz.ntmps59
 go_wp2_with fail
 refine (wW m W hW b off n cap hn hcap _ ?_).mono ?_
 ·intro i hi
  exact ((((Below.refl w.heap.size w).alloc (Nat.le_refl _) _).alloc (by simp) _).cell (p:=⟨b,off+i,none⟩) hb).trans (HM.out i hi)
 rintro e w1 ⟨rfl,hb1⟩
 have hst:=fun Z hZ=>MRel.start w ⟨sa,sb,sc,sd,se,sf,sg,sh⟩ W w1 Z hZ (hb1.mono (by simp))
 have HS:Hid (∀ Z:Array Value,Z.size=80→MRel w ((w1.alloc (.cells Z 109)).setCells w1.heap.size 0 (cJ W 80).toList) ⟨sa,sb,sc,sd,se,sf,sg,sh⟩ W w1.heap.size):=hst
 clear hst hb1
 go_wp2_with (refine fI rfl 109 _ _ rfl w1.heap.size 0 (cJ W 80) rfl rfl (by rw [aZ];exact aw (heap_alloc_new _ _) 0 80 (by simp)) (by rw [aZ];kernel_rfl) (by exact kL W 80) ?_;intro w3 hw3;have hM:MRel w w3 ⟨sa,sb,sc,sd,se,sf,sg,sh⟩ W w1.heap.size:=(by rw [hw3];exact HS.out _ rfl);clear hw3)
 generalize w1.heap.size=p at hM ⊢
 clear HS
 have c0:w3.cell? ⟨w.heap.size,0,none⟩=some (U sa):=cell_of_row _ _ 0 _ _ _ hM.box
 have c1:w3.cell? ⟨w.heap.size,1,none⟩=some (U sb):=cell_of_row _ _ 1 _ _ _ hM.box
 have c2:w3.cell? ⟨w.heap.size,2,none⟩=some (U sc):=cell_of_row _ _ 2 _ _ _ hM.box
 have c3:w3.cell? ⟨w.heap.size,3,none⟩=some (U sd):=cell_of_row _ _ 3 _ _ _ hM.box
 have c4:w3.cell? ⟨w.heap.size,4,none⟩=some (U se):=cell_of_row _ _ 4 _ _ _ hM.box
 have c5:w3.cell? ⟨w.heap.size,5,none⟩=some (U sf):=cell_of_row _ _ 5 _ _ _ hM.box
 have c6:w3.cell? ⟨w.heap.size,6,none⟩=some (U sg):=cell_of_row _ _ 6 _ _ _ hM.box
 have c7:w3.cell? ⟨w.heap.size,7,none⟩=some (U sh):=cell_of_row _ _ 7 _ _ _ hM.box
 have HMR:Hid (MRel w w3 ⟨sa,sb,sc,sd,se,sf,sg,sh⟩ W p):=hM
 clear hM
 go_quiet (fail)
 go_wp2
 go_quiet (fail)
 go_wp2
 clear c0 c1 c2 c3 c4 c5 c6 c7
 go_loopw [6,7,8,9,10,11,12,13,35] (fun xa xb xc xd xe xf xg xh i wr => ∃ (k:Nat) (r:St),k≤80∧i = .int .i64 k∧r=rounds K W ⟨sa,sb,sc,sd,se,sf,sg,sh⟩ k∧xa=U r.a∧xb=U r.b∧xc=U r.c∧xd=U r.d∧xe=U r.e∧xf=U r.f∧xg=U r.g∧xh=U r.h∧MRel w wr ⟨sa,sb,sc,sd,se,sf,sg,sh⟩ W p) (fun _ _ _ _ _ _ _ _ i _=>80 - (intOf i).toNat)
 case atStart=>exact ⟨0,_,by omega,rfl,rfl,rfl,rfl,rfl,rfl,rfl,rfl,rfl,rfl,(HMR.out.drewN _).drewN _⟩
 case round =>
  obtain ⟨k,r,hk,rfl,hr,rfl,rfl,rfl,rfl,rfl,rfl,rfl,rfl,hM⟩:=hrel
  obtain ⟨ra,rb,rc,rd,re,rf,rg,rh⟩:=r
  have HR:Hid (⟨ra,rb,rc,rd,re,rf,rg,rh⟩=rounds K W ⟨sa,sb,sc,sd,se,sf,sg,sh⟩ k):=hr
  clear hr
  dsimp only
  by_cases hlt:k<80
  ·have hk1:(k:Int)<80:=by omega
   have c1:=(hM.below.cell (p:=⟨3,k,none⟩) hg).trans (HK.out k hlt)
   have c2:=hM.cell k hlt
   have HMM:Hid (MRel w _ ⟨sa,sb,sc,sd,se,sf,sg,sh⟩ W p):=hM
   clear hM
   go_wp2_with fail
   go_quiet ((go_at_call 103;exact Calls.quiet_of_same (Iv _ _)))
   go_wp2_with (go_at_call 104;refine (Ha _ _).mono ?_;rintro e w' ⟨rfl,rfl⟩)
   go_roundw
   case rel =>
    exact ⟨k+1,step ⟨ra,rb,rc,rd,re,rf,rg,rh⟩ (K k) (W k),by omega,by go_num,by rw [HR.out];rfl,rfl,rfl,rfl,rfl,rfl,rfl,rfl,rfl,HMM.out.drewN _⟩
   case measure=>simp [intOf];omega
  ·obtain rfl:k=80:=by omega
   have c0:wr.cell? ⟨w.heap.size,0,none⟩=some (U sa):=cell_of_row _ _ 0 _ _ _ hM.box
   have c1:wr.cell? ⟨w.heap.size,1,none⟩=some (U sb):=cell_of_row _ _ 1 _ _ _ hM.box
   have c2:wr.cell? ⟨w.heap.size,2,none⟩=some (U sc):=cell_of_row _ _ 2 _ _ _ hM.box
   have c3:wr.cell? ⟨w.heap.size,3,none⟩=some (U sd):=cell_of_row _ _ 3 _ _ _ hM.box
   have c4:wr.cell? ⟨w.heap.size,4,none⟩=some (U se):=cell_of_row _ _ 4 _ _ _ hM.box
   have c5:wr.cell? ⟨w.heap.size,5,none⟩=some (U sf):=cell_of_row _ _ 5 _ _ _ hM.box
   have c6:wr.cell? ⟨w.heap.size,6,none⟩=some (U sg):=cell_of_row _ _ 6 _ _ _ hM.box
   have c7:wr.cell? ⟨w.heap.size,7,none⟩=some (U sh):=cell_of_row _ _ 7 _ _ _ hM.box
   have HT:Hid (wr.there (w.heap.size+1) 0 8):=aw hM.res 0 8 (by simp)
   have HMM:Hid (MRel w _ ⟨sa,sb,sc,sd,se,sf,sg,sh⟩ W p):=hM
   clear hM
   go_wp2_with (refine wpList_store_mid rfl 86 _ _ rfl (w.heap.size+1) 0 (plus ⟨sa,sb,sc,sd,se,sf,sg,sh⟩ ⟨ra,rb,rc,rd,re,rf,rg,rh⟩).row rfl rfl HT.out (by kernel_rfl) (St.one _) ?_)
   rw [←HR.out]
   refine bodyPost_ret (v := .agg (plus ⟨sa,sb,sc,sd,se,sf,sg,sh⟩ ⟨ra,rb,rc,rd,re,rf,rg,rh⟩).row) ?_ rfl ⟨rfl,?_⟩
   ·exact aN Tryz.results59 _ _ (w.heap.size+1) 0 (plus ⟨sa,sb,sc,sd,se,sf,sg,sh⟩ ⟨ra,rb,rc,rd,re,rf,rg,rh⟩).row.toList _ rfl (World.rangeAt_setCells_same _ _ _ _ HT.out) Tryz.underlying86 rfl (by kernel_rfl)
   ·exact af _ (by omega) _ _ _ HMM.out.below
end Go.Proofs.YtajehiidpecknaaGreatDoor.Sh.Q5
namespace Go.Proofs.YtajehiidpecknaaGreatDoor.Sh
open Go Go.RowKit
theorem qz (x:BitVec 32):bits .xor .u32 (4294967295:Int) (u x)=u (~~~ x):=by
 show IntKind.u32.wrap ((BitVec.ofInt 32 (4294967295:Int) ^^^ BitVec.ofInt 32 (u x)).toNat:Int)=_
 rw [cE,show BitVec.ofInt 32 (4294967295:Int)=BitVec.allOnes 32 by decide,BitVec.allOnes_xor];exact gT _
theorem tn (x:BitVec 32):bits .xor .u32 (if IntKind.u32.signed=true then -1 else IntKind.u32.max) (u x)=u (~~~ x):=qz x
attribute [local go_sem] ju jG nL jv qz tn
end Go.Proofs.YtajehiidpecknaaGreatDoor.Sh
namespace Go.Proofs.YtajehiidpecknaaGreatDoor.Sh
open Go Go.RowKit
attribute [local go_sem] ju jG nL jv o9 Kq
theorem jw (b off cap:Nat) (x:BitVec 32) (w:World) (ht:w.there b off 4) :
  Calls Tryz.prog 105 #[.slice (some ⟨b,off,none⟩) 4 cap,U x] w fun e w'=>e = .returned (.tuple #[])∧w.setCells b off (ic x)=w':=by
 obtain ⟨v0,h0⟩:=Option.isSome_iff_exists.1 (ht 0 (by omega)).1
 obtain ⟨v1,h1⟩:=Option.isSome_iff_exists.1 (ht 1 (by omega)).1
 obtain ⟨v2,h2⟩:=Option.isSome_iff_exists.1 (ht 2 (by omega)).1
 obtain ⟨v3,h3⟩:=Option.isSome_iff_exists.1 (ht 3 (by omega)).1
 refine (oh b off cap x w v0 v1 v2 v3 h0 h1 h2 h3 (ht 0 (by omega)).2 (ht 1 (by omega)).2 (ht 2 (by omega)).2 (ht 3 (by omega)).2).mono ?_
 rintro e w' ⟨rfl,rfl⟩
 exact ⟨rfl,rfl⟩
set_option maxHeartbeats 400000 in
theorem cg (b off cap:Nat) (hcap:8≤cap) (x:BitVec 64) (w:World) (ht:w.there b off 8) :
  Calls Tryz.prog 61 #[.slice (some ⟨b,off,none⟩) 8 cap,L x] w fun e w'=>e = .returned (.tuple #[])∧w.setCells b off (eI x)=w':=by
 have HT:Hid (w.there b off 4):=fun j hj=>ht j (by omega)
 have HT2:Hid ((w.setCells b off (ic ((x >>> 32).setWidth 32))).there b (off+4) 4):=World.there_setCells (fun j hj=>by have:=ht (4+j) (by omega);rwa [←Nat.add_assoc] at this) _ _ _
 clear ht
 go_enter Tryz.func61,Tryz.ntmps61
 go_wp2_with fail
 refine (jw b off _ ((x >>> 32).setWidth 32) _ HT.out).mono ?_
 rintro e w' ⟨rfl,rfl⟩
 go_wp2_with fail
 refine (jw b (off+4) _ (x.setWidth 32) _ HT2.out).mono ?_
 rintro e w' ⟨rfl,rfl⟩
 go_wp2
 go_end0
 exact ⟨rfl,(ij b (ic ((x >>> 32).setWidth 32)) off w (ic (x.setWidth 32))).symm⟩
end Go.Proofs.YtajehiidpecknaaGreatDoor.Sh
namespace Go.Proofs.YtajehiidpecknaaGreatDoor.Sh
open Go Go.RowKit
theorem cq:(Tryz.prog.info? 5).map (·.size)=some 1:=by kernel_rfl
end Go.Proofs.YtajehiidpecknaaGreatDoor.Sh
namespace Go.Proofs.YtajehiidpecknaaGreatDoor.Sh.Q5
open Go Go.RowKit
def St.at (s:St) (i:Nat):BitVec 64:=[s.a,s.b,s.c,s.d,s.e,s.f,s.g,s.h].getD i 0
def dj (s:St) (i:Nat):BitVec 8:=((s.at (i/8)) >>> (56 - 8*(i % 8))).setWidth 8
theorem jR (x:BitVec 64) (j:Nat) (h:j<8):(eI x)[j]? = some (B ((x >>> (56 - 8*j)).setWidth 8)):=by
 have e : ∀ k:Nat,k≤24→((((x >>> 32).setWidth 32:BitVec 32) >>> k).setWidth 8:BitVec 8)=(x >>> (32+k)).setWidth 8:=fun k hk=>by
  apply BitVec.eq_of_toNat_eq
  simp only [BitVec.toNat_setWidth,BitVec.toNat_ushiftRight,Nat.shiftRight_eq_div_pow]
  rw [Nat.pow_add]
  have h1:=x.isLt
  rw [YK (by omega:x.toNat/2 ^ 32<2 ^ 32),YL]
 have f : ∀ k:Nat,k≤24→(((x.setWidth 32:BitVec 32) >>> k).setWidth 8:BitVec 8)=(x >>> k).setWidth 8:=fun k hk=>by
  apply BitVec.eq_of_toNat_eq
  simp only [BitVec.toNat_setWidth,BitVec.toNat_ushiftRight,Nat.shiftRight_eq_div_pow]
  have e2:(2:Nat) ^ 32=2 ^ k*2 ^ (32 - k):=by rw [←Nat.pow_add];congr 1;omega
  have e3:(2:Nat) ^ (32 - k)=2 ^ 8*2 ^ (24 - k):=by rw [←Nat.pow_add];congr 1;omega
  rw [e2,Nat.mod_mul_right_div_self,e3,Nat.mod_mul_right_mod]
 match j,h with
 | 0,_=>exact congrArg (fun z=>some (B z)) (e 24 (by omega))
 | 1,_=>exact congrArg (fun z=>some (B z)) (e 16 (by omega))
 | 2,_=>exact congrArg (fun z=>some (B z)) (e 8 (by omega))
 | 3,_=>exact congrArg (fun z=>some (B z)) (e 0 (by omega))
 | 4,_=>exact congrArg (fun z=>some (B z)) (f 24 (by omega))
 | 5,_=>exact congrArg (fun z=>some (B z)) (f 16 (by omega))
 | 6,_=>exact congrArg (fun z=>some (B z)) (f 8 (by omega))
 | 7,_=>exact congrArg (fun z=>some (B z)) (f 0 (by omega))
def dm (s:St):Array Value:=((List.range 64).map fun i=>B (dj s i)).toArray
theorem bp (s:St):(dm s).size=64:=by simp [dm]
theorem iP (s:St):(dm s).all (·.oneCell')=true :=
 all_oneCell_toArray (fun v hv=>by
  obtain ⟨i,_,rfl⟩:=List.mem_map.1 hv
  rfl)
def l7 (s:St) (k i:Nat):Value:=if i<8*k then B (dj s i) else B 0
structure BRel (w wr:World) (s:St) (k:Nat):Prop where
 below:Below w.heap.size w wr
 cell : ∀ i,i<64→wr.cell? ⟨w.heap.size+2,i,none⟩=some (l7 s k i)
 froz : ∀ i,wr.frozen? ⟨w.heap.size+2,i,none⟩=false
 res:wr.there (w.heap.size+1) 0 64
theorem BRel.start (w:World) (s:St) (A C:Obj):BRel w (((w.alloc A).alloc (.cells (List.replicate 64 (Value.int .u8 0)).toArray 29)).alloc (.cells (List.replicate 64 (Value.int .u8 0)).toArray 29)) s 0:=by
 have hn:((w.alloc A).alloc C).heap.size=w.heap.size+2:=by simp
 refine ⟨(((Below.refl _ _).alloc (Nat.le_refl _) _).alloc (by simp) _).alloc (by simp;omega) _,?_,?_,?_⟩
 ·intro i hi
  rw [World.cell?_alloc_at _ _ _ _ (by simp),List.getElem?_toArray,List.getElem?_replicate,if_pos hi,l7,if_neg (by omega)];rfl
 ·intro i
  rw [World.frozen?_alloc_at _ _ _ _ (by simp)]
 ·intro j hj
  rw [World.cell?_alloc_past _ _ _ (by simp),World.frozen?_alloc_past _ _ _ (by simp),World.cell?_alloc_at _ _ _ _ (by simp),World.frozen?_alloc_at _ _ _ _ (by simp),List.getElem?_toArray,List.getElem?_replicate,if_pos (by omega)]
  exact ⟨rfl,rfl⟩
theorem BRel.put {w wr:World} {s:St} {k:Nat} (h:BRel w wr s k) (hk:k<8):BRel w (wr.setCells (w.heap.size+2) (8*k) (eI (s.at k))) s (k+1):=by
 have ht:wr.there (w.heap.size+2) (8*k) (eI (s.at k)).length:=iD (fun i=>l7 s k (8*k+i)) (fun i hi=>h.cell _ (by simp [eI,ic] at hi;omega)) h.froz
 refine ⟨af _ (by omega) _ _ _ h.below,?_,?_,World.there_setCells h.res _ _ _⟩
 ·intro i hi
  rw [jE _ _ _ _ _ ht]
  have hl:(eI (s.at k)).length=8:=rfl
  rw [hl]
  split
  ·rename_i hi2
   rw [jR _ _ (by omega),l7,if_pos (by omega),dj,show i/8=k by omega,show i % 8=i - 8*k by omega]
  ·rename_i hi2
   rw [h.cell i hi,l7,l7]
   by_cases h1:i<8*k
   ·rw [if_pos h1,if_pos (by omega)]
   ·rw [if_neg h1,if_neg (by omega)]
 ·intro i
  rw [World.frozen?_setCells];exact h.froz i
theorem CE (s:St) : ∀ k:Nat,k<8 → ∀ w:World,(Instr.index 86 (.agg s.row) (.int .i64 (k:Int))).run Tryz.prog w = .ok (U (s.at k)) w
 | 0,_,_=>by kernel_rfl
 | 1,_,_=>by kernel_rfl
 | 2,_,_=>by kernel_rfl
 | 3,_,_=>by kernel_rfl
 | 4,_,_=>by kernel_rfl
 | 5,_,_=>by kernel_rfl
 | 6,_,_=>by kernel_rfl
 | 7,_,_=>by kernel_rfl
set_option maxRecDepth 100000 in
set_option maxHeartbeats 400000 in
theorem gQ (s:St) (w:World) :
  Calls Tryz.prog 62 #[.agg s.row] w fun e w'=>e = .returned (.agg (dm s))∧Below w.heap.size w w':=by
 have HI:Hid (∀ k:Nat,k<8 → ∀ w:World,(Instr.index 86 (.agg s.row) (.int .i64 (k:Int))).run Tryz.prog w = .ok (U (s.at k)) w):=CE s
 have HS:Hid (∀ A C,BRel w (((w.alloc A).alloc (.cells (List.replicate 64 (Value.int .u8 0)).toArray 29)).alloc (.cells (List.replicate 64 (Value.int .u8 0)).toArray 29)) s 0):=BRel.start w s
 obtain ⟨sa,sb,sc,sd,se,sf,sg,sh⟩:=s
 unfold St.row at *
 go_enter Tryz.func62,Tryz.ntmps62
 go_wp2
 go_loopw [4,5,7] (fun _ _ i wr => ∃ k:Nat,k≤8∧i = .int .i64 k∧BRel w wr ⟨sa,sb,sc,sd,se,sf,sg,sh⟩ k) (fun _ _ i _=>8 - (intOf i).toNat)
 case atStart=>exact ⟨0,by omega,rfl,HS.out _ (.cells #[] 0)⟩
 case round =>
  obtain ⟨k,hk,rfl,hr⟩:=hrel
  have HR:Hid (BRel w _ ⟨sa,sb,sc,sd,se,sf,sg,sh⟩ k):=hr
  clear hr
  by_cases hlt:k<8
  ·have hi:=HI.out k hlt
   have sl:=fun w1=>cF w1 29 5 64 (w.heap.size+1+1) 0 (8*(k:Int)) (8*(k:Int)+8) (8*k) (8*k+8) (by omega) (by omega) Tryz.underlying29 cq (by omega) (by omega) (by omega)
   rw [show 8*k+8 - 8*k=8 by omega] at sl
   go_wp2_with fail
   refine (cg (w.heap.size+1+1) (8*k) _ (by omega) _ _ ?_).mono ?_
   ·exact iD (fun i=>l7 ⟨sa,sb,sc,sd,se,sf,sg,sh⟩ k (8*k+i)) (fun i hi=>HR.out.cell _ (by omega)) HR.out.froz
   rintro e w' ⟨rfl,rfl⟩
   go_wp2
   go_roundw
   case rel=>exact ⟨k+1,by omega,by go_num,HR.out.put hlt⟩
   case measure=>simp [intOf];omega
  ·obtain rfl:k=8:=by omega
   have HC:Hid (wr.rangeAt (w.heap.size+1+1) 0 (dm ⟨sa,sb,sc,sd,se,sf,sg,sh⟩).toList):=by
    have:=iO (w:=wr) (g:=w.heap.size+2) (o:=0) (n:=64) (fun i=>B (dj ⟨sa,sb,sc,sd,se,sf,sg,sh⟩ i)) (fun i hi=>by rw [Nat.zero_add,HR.out.cell i hi,l7,if_pos (by omega)])
    exact this
   have HT:Hid (wr.there (w.heap.size+1) 0 (dm ⟨sa,sb,sc,sd,se,sf,sg,sh⟩).size):=by rw [bp];exact HR.out.res
   go_wp2_with (first | (refine wpList_load_mid rfl 29 _ rfl (w.heap.size+1+1) 0 rfl (dm ⟨sa,sb,sc,sd,se,sf,sg,sh⟩).toList _ HC.out Tryz.underlying29 rfl (by rw [Array.length_toList,bp];kernel_rfl) ?_) | (refine wpList_store_mid rfl 29 _ _ rfl (w.heap.size+1) 0 (dm ⟨sa,sb,sc,sd,se,sf,sg,sh⟩) rfl rfl HT.out (by rw [bp];kernel_rfl) (by exact iP _) ?_))
   refine bodyPost_ret (v := .agg (dm ⟨sa,sb,sc,sd,se,sf,sg,sh⟩)) ?_ rfl ⟨rfl,?_⟩
   ·exact aN Tryz.results62 _ _ (w.heap.size+1) 0 (dm ⟨sa,sb,sc,sd,se,sf,sg,sh⟩).toList _ rfl (World.rangeAt_setCells_same _ _ _ _ HT.out) Tryz.underlying29 rfl (by rw [Array.length_toList,bp];kernel_rfl)
   ·exact af _ (by omega) _ _ _ HR.out.below
end Go.Proofs.YtajehiidpecknaaGreatDoor.Sh.Q5
