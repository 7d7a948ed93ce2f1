/- The schedule of SHA-512: what 'schedule512' answers. -/
import Derived.Test.YtmaehekekkfpmaaDoorQ5B
import Derived.Test.YtmaehekekkfpmaaDoorShaA
import Derived.Deep.RegionHeld3
import Derived.Deep.MidRow
import Derived.Deep.DrawnRows
set_option linter.unusedSimpArgs false
set_option linter.unusedVariables false
namespace Go.Proofs.YtmaehekekkfpmaaDoor.Sh.Q5
open Go Go.RowKit
attribute [local go_sem] u_xor u_and u_or u_add
attribute [local go_sem ↓] Go.wp_at_zero Go.wp_at_succ
structure Sched (m:Nat→BitVec 8) (W:Nat→BitVec 64):Prop where
 first : ∀ t,t<16→W t=word fun i=>m (8*t+i)
 later : ∀ t,16≤t→t<80→W t=lo1 (W (t - 2))+W (t - 7)+lo0 (W (t - 15))+W (t - 16)
def upto (W:Nat→BitVec 64) (k i:Nat):BitVec 64:=if i<k then W i else 0
def rowW (W:Nat→BitVec 64) (k:Nat):Array Value:=((List.range 80).map fun i=>U (upto W k i)).toArray
theorem rowW_get (W:Nat→BitVec 64) (k i:Nat) (h:i<80):(rowW W k)[i]? = some (U (upto W k i)):=by
 simp [rowW,h]
theorem rowW_size (W:Nat→BitVec 64) (k:Nat):(rowW W k).size=80:=by simp [rowW]
theorem rowW_set (W:Nat→BitVec 64) (k:Nat):(rowW W k).setIfInBounds k (U (W k))=rowW W (k+1):=by
 apply Array.ext_getElem?
 intro i
 by_cases hi:i<80
 ·rw [rowW_get W (k+1) i hi,Array.getElem?_setIfInBounds]
  by_cases e:k=i
  ·subst e;simp [rowW_size,hi,upto]
  ·rw [if_neg e,rowW_get W k i hi]
   have:upto W k i=upto W (k+1) i:=by
    unfold upto
    by_cases h1:i<k
    ·rw [if_pos h1,if_pos (by omega)]
    ·rw [if_neg h1,if_neg (by omega)]
   rw [this]
 ·rw [Array.getElem?_eq_none (by simp [rowW_size];omega),Array.getElem?_eq_none (by simp [rowW_size];omega)]
theorem rowW_one (W:Nat→BitVec 64) (k:Nat):(rowW W k).all (·.oneCell')=true :=
 all_oneCell_toArray (fun v hv=>by
  obtain ⟨i,_,rfl⟩:=List.mem_map.1 hv
  rfl)
structure SRel (w wr:World) (W:Nat→BitVec 64) (k:Nat):Prop where
 below:Below w.heap.size w wr
 size:wr.heap.size=w.heap.size+2
 row:wr.heap[w.heap.size+1]? = some (.cells (rowW W k) 84 (0,0))
 res:wr.heap[w.heap.size]? = some (.cells (rowW W 0) 84 (0,0))
theorem SRel.start (w:World) (W:Nat→BitVec 64):SRel w ((w.alloc (.cells (rowW W 0) 84)).alloc (.cells (rowW W 0) 84)) W 0 :=
 ⟨((Below.refl _ _).alloc (Nat.le_refl _) _).alloc (by simp) _,by simp,heap_alloc2_new _ _ _,heap_alloc2_old _ _ _⟩
theorem SRel.cell {w wr:World} {W:Nat→BitVec 64} {k:Nat} (h:SRel w wr W k) (i:Nat) (hi:i<80):wr.cell? ⟨w.heap.size+1,i,none⟩=some (U (upto W k i)):=by
 rw [cell_of_row wr _ i _ _ _ h.row];exact rowW_get W k i hi
theorem SRel.frozen {w wr:World} {W:Nat→BitVec 64} {k:Nat} (h:SRel w wr W k) (i:Nat):wr.frozen? ⟨w.heap.size+1,i,none⟩=false:=frozen_of_row _ _ _ _ _ h.row
theorem SRel.drewN {w wr:World} {W:Nat→BitVec 64} {k:Nat} (h:SRel w wr W k) (n:Nat):SRel w (wr.drewN n) W k:=by
 induction n with
 | zero=>exact h
 | succ n ih=>exact ⟨ih.below.drew,ih.size,ih.row,ih.res⟩
theorem SRel.set {w wr:World} {W:Nat→BitVec 64} {k:Nat} (h:SRel w wr W k):SRel w (wr.setCell ⟨w.heap.size+1,k,none⟩ (U (W k))) W (k+1) :=
 ⟨h.below.setCell (by simp) _,by simp [World.setCell];exact h.size,by rw [heap_setCell_same _ _ _ _ _ _ h.row,rowW_set],by rw [heap_setCell_other _ _ _ _ (by simp)];exact h.res⟩
theorem rowW_zero (W:Nat→BitVec 64):rowW W 0=(List.replicate 80 (Value.int .u64 0)).toArray:=by
 apply Array.ext_getElem?
 intro i
 by_cases hi:i<80
 ·rw [rowW_get W 0 i hi,List.getElem?_toArray,List.getElem?_replicate,if_pos hi,upto,if_neg (Nat.not_lt_zero i)];rfl
 ·rw [Array.getElem?_eq_none (by rw [rowW_size];omega),Array.getElem?_eq_none (by rw [List.size_toArray,List.length_replicate];omega)]
theorem keep_ne (wr:World) (g k i:Nat) (v:Value) (h:i≠k):((wr.setCell ⟨g,k,none⟩ v).drew).cell? ⟨g,i,none⟩=wr.cell? ⟨g,i,none⟩ :=
 World.cell?_setCell_other _ _ _ _ (fun e=>h (by cases e;rfl))
theorem zero_80 (w:World):(zeroValue 84).run Tryd.prog w = .ok (.agg (List.replicate 80 (Value.int .u64 0)).toArray) w:=by kernel_rfl
set_option maxRecDepth 100000 in
set_option maxHeartbeats 1000000 in
theorem sched_walk (m:Nat→BitVec 8) (W:Nat→BitVec 64) (hW:Sched m W) (b off n cap:Nat) (hn:128≤n) (hcap:n≤cap) (w:World) (hm : ∀ i,i<128→w.cell? ⟨b,off+i,none⟩=some (B (m i))) :
  Calls Tryd.prog 47 #[.slice (some ⟨b,off,none⟩) n cap] w fun e w'=>e = .returned (.agg (rowW W 80))∧Below w.heap.size w w':=by
 have HM:Hid (∀ i,i<128→w.cell? ⟨b,off+i,none⟩=some (B (m i))):=hm
 have hb:b<w.heap.size:=block_lt_of_cell (hm 0 (by omega))
 clear hm
 have hst:=SRel.start w W
 rw [rowW_zero] at hst
 have HST:Hid (SRel w ((w.alloc (.cells (List.replicate 80 (Value.int .u64 0)).toArray 84)).alloc (.cells (List.replicate 80 (Value.int .u64 0)).toArray 84)) W 0):=hst
 clear hst
 have hz:=zero_80
 go_enter Tryd.func47,Tryd.ntmps47
 go_wp2
 go_loopw [4,6] (fun _ i wr => ∃ k:Nat,k≤16∧i = .int .i64 k∧SRel w wr W k) (fun _ i _=>16 - (intOf i).toNat)
 case atStart=>exact ⟨0,by omega,rfl,HST.out⟩
 case round =>
  obtain ⟨k,hk,rfl,hr⟩:=hrel
  by_cases hlt:k<16
  ·have s1 : ∀ i,i<8→wr.cell? ⟨b,off+8*k+i,none⟩=some (B (m (8*k+i))):=fun i hi=>(hr.below.cell (p:=⟨b,off+8*k+i,none⟩) hb).trans (by rw [Nat.add_assoc];exact HM.out (8*k+i) (by omega))
   have S1:Hid (∀ i,i<8→wr.cell? ⟨b,off+8*k+i,none⟩=some (B (m (8*k+i)))):=s1
   clear s1
   have c1:=hr.cell k (by omega)
   have f1:=hr.frozen k
   have HR:Hid (SRel w _ W k):=hr
   clear hr
   go_wp2_with fail
   refine (word64_any b (off+8*k) _ (by omega) (fun i=>m (8*k+i)) _ S1.out).mono ?_
   rintro e w' ⟨rfl,nq,rfl⟩
   rw [←hW.first k hlt]
   go_wp2
   go_roundw
   case rel=>exact ⟨k+1,by omega,by go_num,(HR.out.drewN nq).set⟩
   case measure=>simp [intOf];omega
  ·obtain rfl:k=16:=by omega
   have HR:Hid (SRel w wr W 16):=hr
   clear hr
   go_wp2
   go_loopw [5] (fun i wr => ∃ k:Nat,16≤k∧k≤80∧i = .int .i64 k∧SRel w wr W k) (fun i _=>80 - (intOf i).toNat)
   case atStart=>exact ⟨16,by omega,by omega,rfl,HR.out⟩
   case round =>
    obtain ⟨k,hk1,hk,rfl,hr⟩:=hrel
    by_cases hlt:k<80
    ·have e1:(2:Int)≤(k:Int):=by omega
     have e2:(7:Int)≤(k:Int):=by omega
     have e3:(15:Int)≤(k:Int):=by omega
     have e4:(16:Int)≤(k:Int):=by omega
     have l0:(k:Int)<80:=by omega
     have l1:(k:Int) - 2<80:=by omega
     have l2:(k:Int) - 7<80:=by omega
     have l3:(k:Int) - 15<80:=by omega
     have l4:(k:Int) - 16<80:=by omega
     have w1:IntKind.i64.wrap ((k:Int) - 2)=(k:Int) - 2:=by simp [IntKind.wrap,IntKind.bits,IntKind.signed];omega
     have w2:IntKind.i64.wrap ((k:Int) - 7)=(k:Int) - 7:=by simp [IntKind.wrap,IntKind.bits,IntKind.signed];omega
     have w3:IntKind.i64.wrap ((k:Int) - 15)=(k:Int) - 15:=by simp [IntKind.wrap,IntKind.bits,IntKind.signed];omega
     have w4:IntKind.i64.wrap ((k:Int) - 16)=(k:Int) - 16:=by simp [IntKind.wrap,IntKind.bits,IntKind.signed];omega
     have n1:k - 2≠k:=by omega
     have n2:k - 7≠k:=by omega
     have n3:k - 15≠k:=by omega
     have n4:k - 16≠k:=by omega
     have t1:((k:Int) - 2).toNat=k - 2:=by omega
     have t2:((k:Int) - 7).toNat=k - 7:=by omega
     have t3:((k:Int) - 15).toNat=k - 15:=by omega
     have t4:((k:Int) - 16).toNat=k - 16:=by omega
     have c1:=hr.cell k (by omega)
     have f1:=hr.frozen k
     have d1:=hr.cell (k - 2) (by omega)
     have d2:=hr.cell (k - 7) (by omega)
     have d3:=hr.cell (k - 15) (by omega)
     have d4:=hr.cell (k - 16) (by omega)
     rw [upto,if_pos (by omega)] at d1 d2 d3 d4
     have HR:Hid (SRel w _ W k):=hr
     clear hr
     go_wp2_with fail
     go_region_held3 (fun w'=>w'.cell? ⟨w.heap.size+1,k - 2,none⟩=some (U (W (k - 2)))∧w'.cell? ⟨w.heap.size+1,k - 7,none⟩=some (U (W (k - 7)))∧w'.cell? ⟨w.heap.size+1,k - 15,none⟩=some (U (W (k - 15)))∧w'.cell? ⟨w.heap.size+1,k - 16,none⟩=some (U (W (k - 16)))) (first | exact ⟨d1,d2,d3,d4⟩ | exact ⟨(keep_ne _ _ _ _ _ n1).trans d1,(keep_ne _ _ _ _ _ n2).trans d2,(keep_ne _ _ _ _ _ n3).trans d3,(keep_ne _ _ _ _ _ n4).trans d4⟩)
      (first | (go_at_call 67;refine (lo1_any _ _).mono ?_;rintro e w' ⟨rfl,rfl⟩) | (go_at_call 68;refine (lo0_any _ _).mono ?_;rintro e w' ⟨rfl,rfl⟩))
     have hl:lo1 (W (k - 2))+W (k - 7)+lo0 (W (k - 15))+W (k - 16)=W k:=(hW.later k hk1 hlt).symm
     rw [hl]
     clear hl
     go_wp2
     go_roundw
     case rel =>
      (repeat apply Exists.intro)
      exact ⟨⟨k+1,by omega,by omega,by go_num,(HR.out.set).drewN 1⟩,rfl⟩
     case measure=>simp [intOf];omega
    ·obtain rfl:k=80:=by omega
     have HR:Hid (SRel w _ W 80):=hr
     have hrow:=hr.row
     clear hr
     have hres:=HR.out.res
     have ht:wr.there w.heap.size 0 (rowW W 80).size:=by rw [rowW_size];exact there_of_row hres 0 80 (by rw [rowW_size];omega)
     have HT:Hid (wr.there w.heap.size 0 (rowW W 80).size):=ht
     clear ht hres
     go_wp2_with (first | (refine wpList_load_row rfl 84 _ rfl _ rfl _ _ _ _ hrow Tryd.underlying84 rfl (by rw [rowW_size];kernel_rfl) ?_) | (refine wpList_store_mid rfl 84 _ _ rfl w.heap.size 0 (rowW W 80) rfl rfl HT.out (by rw [rowW_size];kernel_rfl) (by exact rowW_one W 80) ?_))
     refine bodyPost_ret (v := .agg (rowW W 80)) ?_ rfl ⟨rfl,?_⟩
     ·exact results_mid Tryd.results47 _ _ w.heap.size 0 (rowW W 80).toList _ rfl (World.rangeAt_setCells_same _ _ _ _ HT.out) Tryd.underlying84 rfl (by rw [Array.length_toList,rowW_size];kernel_rfl)
     ·exact below_setCells _ (Nat.le_refl _) _ _ _ HR.out.below
end Go.Proofs.YtmaehekekkfpmaaDoor.Sh.Q5
/- One block of SHA-512: what 'mix512' answers. -/
namespace Go.Proofs.YtmaehekekkfpmaaDoor.Sh.Q5
open Go Go.RowKit
structure St where
 a:BitVec 64
 b:BitVec 64
 c:BitVec 64
 d:BitVec 64
 e:BitVec 64
 f:BitVec 64
 g:BitVec 64
 h:BitVec 64
def tt1 (s:St) (k w:BitVec 64):BitVec 64:=s.h+up1 s.e+((s.e &&& s.f) ^^^ (~~~ s.e &&& s.g))+k+w
def tt2 (s:St):BitVec 64:=up0 s.a+((s.a &&& s.b) ^^^ (s.a &&& s.c) ^^^ (s.b &&& s.c))
def step (s:St) (k w:BitVec 64):St:=⟨tt1 s k w+tt2 s,s.a,s.b,s.c,s.d+tt1 s k w,s.e,s.f,s.g⟩
def rounds (K W:Nat→BitVec 64) (s:St):Nat→St
 | 0=>s
 | n+1=>step (rounds K W s n) (K n) (W n)
def plus (s t:St):St:=⟨s.a+t.a,s.b+t.b,s.c+t.c,s.d+t.d,s.e+t.e,s.f+t.f,s.g+t.g,s.h+t.h⟩
def St.row (s:St):Array Value := #[U s.a,U s.b,U s.c,U s.d,U s.e,U s.f,U s.g,U s.h]
theorem St.one (s:St):s.row.all (·.oneCell')=true :=
 all_oneCell_toArray (fun v hv=>by
  simp only [List.mem_cons,List.not_mem_nil,or_false] at hv
  rcases hv with h | h | h | h | h | h | h | h <;> (subst h;rfl))
theorem u_not (x:BitVec 64):bits .xor .u64 (18446744073709551615:Int) (u x)=u (~~~ x):=by
 show IntKind.u64.wrap ((BitVec.ofInt 64 (18446744073709551615:Int) ^^^ BitVec.ofInt 64 (u x)).toNat:Int)=_
 rw [u_ofInt,show BitVec.ofInt 64 (18446744073709551615:Int)=BitVec.allOnes 64 by decide,BitVec.allOnes_xor];exact u_wrap _
theorem u_not' (x:BitVec 64):bits .xor .u64 (if IntKind.u64.signed=true then -1 else IntKind.u64.max) (u x)=u (~~~ x):=u_not x
structure MRel (w wr:World) (s:St) (W:Nat→BitVec 64) (p:Nat):Prop where
 below:Below w.heap.size w wr
 pos:w.heap.size+2≤p
 box:wr.heap[w.heap.size]? = some (.cells s.row 62 (0,0))
 res:wr.heap[w.heap.size+1]? = some (.cells (List.replicate 8 (Value.int .u64 0)).toArray 62 (0,0))
 row:wr.rangeAt p 0 (rowW W 80).toList
theorem MRel.drewN {w wr:World} {s:St} {W:Nat→BitVec 64} {p:Nat} (h:MRel w wr s W p) (n:Nat):MRel w (wr.drewN n) s W p :=
 ⟨below_drewN h.below n,h.pos,h.box,h.res,h.row⟩
theorem MRel.start (w:World) (s:St) (W:Nat→BitVec 64) (w1:World) (Z:Array Value) (hZ:Z.size=80)
  (hb:Below (w.heap.size+2) ((w.alloc (.cells s.row 62)).alloc (.cells (List.replicate 8 (Value.int .u64 0)).toArray 62)) w1) :
  MRel w ((w1.alloc (.cells Z 84)).setCells w1.heap.size 0 (rowW W 80).toList) s W w1.heap.size:=by
 have hz:=hb.size
 simp at hz
 have b0:Below w.heap.size w w1:=(((Below.refl _ _).alloc (Nat.le_refl _) _).alloc (by simp) _).trans (hb.mono (by omega))
 have b1:Below w1.heap.size w1 ((w1.alloc (.cells Z 84)).setCells w1.heap.size 0 (rowW W 80).toList) :=
  below_setCells _ (Nat.le_refl _) _ _ _ ((Below.refl _ _).alloc (Nat.le_refl _) _)
 refine ⟨b0.trans (b1.mono (by omega)),hz,?_,?_,?_⟩
 ·rw [b1.block _ (by omega),hb.block _ (by omega)];exact heap_alloc2_old _ _ _
 ·rw [b1.block _ (by omega),hb.block _ (by omega)];exact heap_alloc2_new _ _ _
 ·exact World.rangeAt_setCells_same _ _ _ _ (there_of_row (heap_alloc_new _ _) 0 _ (by rw [Array.length_toList,rowW_size,hZ];omega))
theorem MRel.cell {w wr:World} {s:St} {W:Nat→BitVec 64} {p:Nat} (h:MRel w wr s W p) (i:Nat) (hi:i<80):wr.cell? ⟨p,i,none⟩=some (U (W i)):=by
 have:=h.row i (U (W i)) (by rw [Array.getElem?_toList,rowW_get W 80 i hi,upto,if_pos hi])
 simpa using this
attribute [local go_sem] u_xor u_and u_or u_add u_not u_not'
set_option maxRecDepth 100000 in
set_option maxHeartbeats 1000000 in
theorem mix_walk (K:Nat→BitVec 64) (m:Nat→BitVec 8) (W:Nat→BitVec 64) (hW:Sched m W) (s:St) (b off n cap:Nat) (hn:128≤n) (hcap:n≤cap) (w:World) (hm : ∀ i,i<128→w.cell? ⟨b,off+i,none⟩=some (B (m i)))
  (hK : ∀ i,i<80→w.cell? ⟨3,i,none⟩=some (U (K i))) :
  Calls Tryd.prog 29 #[.agg s.row,.slice (some ⟨b,off,none⟩) n cap] w fun e w'=>e = .returned (.agg (plus s (rounds K W s 80)).row)∧Below w.heap.size w w':=by
 have hb:b<w.heap.size:=block_lt_of_cell (hm 0 (by omega))
 have hg:3<w.heap.size:=block_lt_of_cell (hK 0 (by omega))
 have HM:Hid (∀ i,i<128→w.cell? ⟨b,off+i,none⟩=some (B (m i))):=hm
 have HK:Hid (∀ i,i<80→w.cell? ⟨3,i,none⟩=some (U (K i))):=hK
 clear hm hK
 obtain ⟨sa,sb,sc,sd,se,sf,sg,sh⟩:=s
 unfold St.row
 have hz:=zero_80
 go_enter Tryd.func29,Tryd.ntmps29
 go_wp2_with fail
 refine (sched_walk m W hW b off n cap hn hcap _ ?_).mono ?_
 ·intro i hi
  exact ((((Below.refl w.heap.size w).alloc (Nat.le_refl _) _).alloc (by simp) _).cell (p:=⟨b,off+i,none⟩) hb).trans (HM.out i hi)
 rintro e w1 ⟨rfl,hb1⟩
 have hst:=fun Z hZ=>MRel.start w ⟨sa,sb,sc,sd,se,sf,sg,sh⟩ W w1 Z hZ (hb1.mono (by simp))
 have HS:Hid (∀ Z:Array Value,Z.size=80→MRel w ((w1.alloc (.cells Z 84)).setCells w1.heap.size 0 (rowW W 80).toList) ⟨sa,sb,sc,sd,se,sf,sg,sh⟩ W w1.heap.size):=hst
 clear hst hb1
 go_wp2_with (refine wpList_store_midL rfl 84 _ _ rfl w1.heap.size 0 (rowW W 80) rfl rfl (by rw [rowW_size];exact there_of_row (heap_alloc_new _ _) 0 80 (by simp)) (by rw [rowW_size];kernel_rfl) (by exact rowW_one W 80) ?_;intro w3 hw3;have hM:MRel w w3 ⟨sa,sb,sc,sd,se,sf,sg,sh⟩ W w1.heap.size:=(by rw [hw3];exact HS.out _ rfl);clear hw3)
 generalize w1.heap.size=p at hM ⊢
 clear HS
 have c0:w3.cell? ⟨w.heap.size,0,none⟩=some (U sa):=cell_of_row _ _ 0 _ _ _ hM.box
 have c1:w3.cell? ⟨w.heap.size,1,none⟩=some (U sb):=cell_of_row _ _ 1 _ _ _ hM.box
 have c2:w3.cell? ⟨w.heap.size,2,none⟩=some (U sc):=cell_of_row _ _ 2 _ _ _ hM.box
 have c3:w3.cell? ⟨w.heap.size,3,none⟩=some (U sd):=cell_of_row _ _ 3 _ _ _ hM.box
 have c4:w3.cell? ⟨w.heap.size,4,none⟩=some (U se):=cell_of_row _ _ 4 _ _ _ hM.box
 have c5:w3.cell? ⟨w.heap.size,5,none⟩=some (U sf):=cell_of_row _ _ 5 _ _ _ hM.box
 have c6:w3.cell? ⟨w.heap.size,6,none⟩=some (U sg):=cell_of_row _ _ 6 _ _ _ hM.box
 have c7:w3.cell? ⟨w.heap.size,7,none⟩=some (U sh):=cell_of_row _ _ 7 _ _ _ hM.box
 have HMR:Hid (MRel w w3 ⟨sa,sb,sc,sd,se,sf,sg,sh⟩ W p):=hM
 clear hM
 go_quiet (fail)
 go_wp2
 go_quiet (fail)
 go_wp2
 clear c0 c1 c2 c3 c4 c5 c6 c7
 go_loopw [6,7,8,9,10,11,12,13,35] (fun xa xb xc xd xe xf xg xh i wr => ∃ (k:Nat) (r:St),k≤80∧i = .int .i64 k∧r=rounds K W ⟨sa,sb,sc,sd,se,sf,sg,sh⟩ k∧xa=U r.a∧xb=U r.b∧xc=U r.c∧xd=U r.d∧xe=U r.e∧xf=U r.f∧xg=U r.g∧xh=U r.h∧MRel w wr ⟨sa,sb,sc,sd,se,sf,sg,sh⟩ W p) (fun _ _ _ _ _ _ _ _ i _=>80 - (intOf i).toNat)
 case atStart=>exact ⟨0,_,by omega,rfl,rfl,rfl,rfl,rfl,rfl,rfl,rfl,rfl,rfl,(HMR.out.drewN _).drewN _⟩
 case round =>
  obtain ⟨k,r,hk,rfl,hr,rfl,rfl,rfl,rfl,rfl,rfl,rfl,rfl,hM⟩:=hrel
  obtain ⟨ra,rb,rc,rd,re,rf,rg,rh⟩:=r
  have HR:Hid (⟨ra,rb,rc,rd,re,rf,rg,rh⟩=rounds K W ⟨sa,sb,sc,sd,se,sf,sg,sh⟩ k):=hr
  clear hr
  dsimp only
  by_cases hlt:k<80
  ·have hk1:(k:Int)<80:=by omega
   have c1:=(hM.below.cell (p:=⟨3,k,none⟩) hg).trans (HK.out k hlt)
   have c2:=hM.cell k hlt
   have HMM:Hid (MRel w _ ⟨sa,sb,sc,sd,se,sf,sg,sh⟩ W p):=hM
   clear hM
   go_wp2_with fail
   go_quiet ((go_at_call 48;exact Calls.quiet_of_same (up1_any _ _)))
   go_wp2_with (go_at_call 49;refine (up0_any _ _).mono ?_;rintro e w' ⟨rfl,rfl⟩)
   go_roundw
   case rel =>
    exact ⟨k+1,step ⟨ra,rb,rc,rd,re,rf,rg,rh⟩ (K k) (W k),by omega,by go_num,by rw [HR.out];rfl,rfl,rfl,rfl,rfl,rfl,rfl,rfl,rfl,HMM.out.drewN _⟩
   case measure=>simp [intOf];omega
  ·obtain rfl:k=80:=by omega
   have c0:wr.cell? ⟨w.heap.size,0,none⟩=some (U sa):=cell_of_row _ _ 0 _ _ _ hM.box
   have c1:wr.cell? ⟨w.heap.size,1,none⟩=some (U sb):=cell_of_row _ _ 1 _ _ _ hM.box
   have c2:wr.cell? ⟨w.heap.size,2,none⟩=some (U sc):=cell_of_row _ _ 2 _ _ _ hM.box
   have c3:wr.cell? ⟨w.heap.size,3,none⟩=some (U sd):=cell_of_row _ _ 3 _ _ _ hM.box
   have c4:wr.cell? ⟨w.heap.size,4,none⟩=some (U se):=cell_of_row _ _ 4 _ _ _ hM.box
   have c5:wr.cell? ⟨w.heap.size,5,none⟩=some (U sf):=cell_of_row _ _ 5 _ _ _ hM.box
   have c6:wr.cell? ⟨w.heap.size,6,none⟩=some (U sg):=cell_of_row _ _ 6 _ _ _ hM.box
   have c7:wr.cell? ⟨w.heap.size,7,none⟩=some (U sh):=cell_of_row _ _ 7 _ _ _ hM.box
   have HT:Hid (wr.there (w.heap.size+1) 0 8):=there_of_row hM.res 0 8 (by simp)
   have HMM:Hid (MRel w _ ⟨sa,sb,sc,sd,se,sf,sg,sh⟩ W p):=hM
   clear hM
   go_wp2_with (refine wpList_store_mid rfl 62 _ _ rfl (w.heap.size+1) 0 (plus ⟨sa,sb,sc,sd,se,sf,sg,sh⟩ ⟨ra,rb,rc,rd,re,rf,rg,rh⟩).row rfl rfl HT.out (by kernel_rfl) (St.one _) ?_)
   rw [←HR.out]
   refine bodyPost_ret (v := .agg (plus ⟨sa,sb,sc,sd,se,sf,sg,sh⟩ ⟨ra,rb,rc,rd,re,rf,rg,rh⟩).row) ?_ rfl ⟨rfl,?_⟩
   ·exact results_mid Tryd.results29 _ _ (w.heap.size+1) 0 (plus ⟨sa,sb,sc,sd,se,sf,sg,sh⟩ ⟨ra,rb,rc,rd,re,rf,rg,rh⟩).row.toList _ rfl (World.rangeAt_setCells_same _ _ _ _ HT.out) Tryd.underlying62 rfl (by kernel_rfl)
   ·exact below_setCells _ (by omega) _ _ _ HMM.out.below
end Go.Proofs.YtmaehekekkfpmaaDoor.Sh.Q5
