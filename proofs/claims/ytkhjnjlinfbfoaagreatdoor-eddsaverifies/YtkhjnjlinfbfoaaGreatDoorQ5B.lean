/- The small functions of package sha2 (SHA-512): rotations, sigmas, words, each by a contract of its own. -/
import Derived.Test.YtkhjnjlinfbfoaaGreatDoorScrB
import Derived.Test.YtkhjnjlinfbfoaaGreatDoorRgnT
import Derived.Deep.RegionHeld3
import Derived.Deep.MidRow
import Derived.Deep.DrawnRows
set_option linter.unusedSimpArgs false
set_option linter.unusedVariables false
namespace Go.Proofs.YtkhjnjlinfbfoaaGreatDoor.Sh.Q5
open Go Go.RowKit
set_option maxRecDepth 100000
section rots
attribute [local go_sem] u_xor u_and u_or u_add u_shl u_shr u_shr7 u_shr6
set_option maxHeartbeats 400000 in
theorem rotl64 (x:BitVec 64) (k:Int) (s:Nat) (hk:bits BinOp.and IntKind.u64 (IntKind.u64.wrap k) 63=(s:Int)) (hs:s≤64) (w:World) :
  Calls Tryz.prog 137 #[U x,.int .i64 k] w fun e w'=>e = .returned (U ((x <<< s) ||| (x >>> (64 - s))))∧w'=w:=by
 have hw:IntKind.u64.wrap (64 - (s:Int))=((64 - s:Nat):Int):=by rw [IntKind.wrap_u64];omega
 have m1:min s 64=s:=by omega
 have m2:min (64 - s) 64=64 - s:=by omega
 go_enter Tryz.func137,Tryz.ntmps137
 go_wp2
 go_ret
 exact ⟨rfl,rfl⟩
set_option maxHeartbeats 400000 in
theorem rotr64 (x:BitVec 64) (k:Int) (h1:1≤k) (h2:k≤63) (w:World) :
  Calls Tryz.prog 122 #[U x,.int .i64 k] w fun e w'=>e = .returned (U (rotr x k.toNat))∧w'=w:=by
 obtain ⟨n,rfl⟩:=Int.eq_ofNat_of_zero_le (show 0≤k by omega)
 have HN:Hid (bits BinOp.and IntKind.u64 (IntKind.u64.wrap (-(n:Int))) 63=((64 - n:Nat):Int)):=neg_and ⟨n,by omega⟩ (by show 1≤n;omega)
 have HE:Hid ((x <<< (64 - n)) ||| (x >>> (64 - (64 - n)))=rotr x n):=by unfold rotr;rw [show 64 - (64 - n)=n by omega];rfl
 go_enter Tryz.func122,Tryz.ntmps122
 go_wp2_with fail
 refine (rotl64 x _ (64 - n) HN.out (by omega) _).mono ?_
 rintro e w' ⟨rfl,rfl⟩
 rw [HE.out]
 go_wp2
 go_ret
 exact ⟨rfl,rfl⟩
set_option maxHeartbeats 400000 in
theorem up0_any (x:BitVec 64) (w:World):Calls Tryz.prog 107 #[U x] w fun e w'=>e = .returned (U (up0 x))∧w'=w:=by
 go_enter Tryz.func107,Tryz.ntmps107
 go_wp2_with (go_at_call 122;refine (rotr64 x _ (by decide) (by decide) _).mono ?_;rintro e w' ⟨rfl,rfl⟩)
 go_ret
 exact ⟨rfl,rfl⟩
set_option maxHeartbeats 400000 in
theorem up1_any (x:BitVec 64) (w:World):Calls Tryz.prog 106 #[U x] w fun e w'=>e = .returned (U (up1 x))∧w'=w:=by
 go_enter Tryz.func106,Tryz.ntmps106
 go_wp2_with (go_at_call 122;refine (rotr64 x _ (by decide) (by decide) _).mono ?_;rintro e w' ⟨rfl,rfl⟩)
 go_ret
 exact ⟨rfl,rfl⟩
set_option maxHeartbeats 400000 in
theorem lo0_any (x:BitVec 64) (w:World):Calls Tryz.prog 121 #[U x] w fun e w'=>e = .returned (U (lo0 x))∧w'=w:=by
 go_enter Tryz.func121,Tryz.ntmps121
 go_wp2_with (go_at_call 122;refine (rotr64 x _ (by decide) (by decide) _).mono ?_;rintro e w' ⟨rfl,rfl⟩)
 go_ret
 exact ⟨rfl,rfl⟩
set_option maxHeartbeats 400000 in
theorem lo1_any (x:BitVec 64) (w:World):Calls Tryz.prog 120 #[U x] w fun e w'=>e = .returned (U (lo1 x))∧w'=w:=by
 go_enter Tryz.func120,Tryz.ntmps120
 go_wp2_with (go_at_call 122;refine (rotr64 x _ (by decide) (by decide) _).mono ?_;rintro e w' ⟨rfl,rfl⟩)
 go_ret
 exact ⟨rfl,rfl⟩
end rots
attribute [local go_sem] u_or u_shl32 u_of_w
theorem word32_q (b off cap:Nat) (b0 b1 b2 b3:BitVec 8) (w:World) (n:Nat) (h0:w.cell? ⟨b,off,none⟩=some (B b0)) (h1:w.cell? ⟨b,off+1,none⟩=some (B b1)) (h2:w.cell? ⟨b,off+2,none⟩=some (B b2)) (h3:w.cell? ⟨b,off+3,none⟩=some (B b3)) :
  Calls Tryz.prog 136 #[.slice (some ⟨b,off,none⟩) 4 cap] (w.drewN n) fun e w'=>e = .returned (Go.Proofs.YtkhjnjlinfbfoaaGreatDoor.Sh.U (Go.Proofs.YtkhjnjlinfbfoaaGreatDoor.Sh.word b0 b1 b2 b3)) ∧ ∃ m,w'=w.drewN m :=
 Calls.quiet_of (word32_any b off cap b0 b1 b2 b3 (w.drewN n) h0 h1 h2 h3)
def wfn (b off cap:Nat) (x:Nat→BitVec 8):Nat→Value
 | 0 => .slice (some ⟨b,off,none⟩) 8 cap
 | 1 => .slice (some ⟨b,off,none⟩) 4 cap
 | 2=>Go.Proofs.YtkhjnjlinfbfoaaGreatDoor.Sh.U (Go.Proofs.YtkhjnjlinfbfoaaGreatDoor.Sh.word (x 0) (x 1) (x 2) (x 3))
 | 3=>U ((Go.Proofs.YtkhjnjlinfbfoaaGreatDoor.Sh.word (x 0) (x 1) (x 2) (x 3)).setWidth 64)
 | 4=>U ((Go.Proofs.YtkhjnjlinfbfoaaGreatDoor.Sh.word (x 0) (x 1) (x 2) (x 3)).setWidth 64 <<< 32)
 | 5 => .slice (some ⟨b,off,none⟩) 8 cap
 | 6 => .slice (some ⟨b,off+4,none⟩) 4 (cap - 4)
 | 7=>Go.Proofs.YtkhjnjlinfbfoaaGreatDoor.Sh.U (Go.Proofs.YtkhjnjlinfbfoaaGreatDoor.Sh.word (x 4) (x 5) (x 6) (x 7))
 | 8=>U ((Go.Proofs.YtkhjnjlinfbfoaaGreatDoor.Sh.word (x 4) (x 5) (x 6) (x 7)).setWidth 64)
 | 9=>U (word x)
 | 10=>U (word x)
 | _=>undef
set_option maxHeartbeats 1000000 in
theorem word64_any (b off cap:Nat) (hc:8≤cap) (x:Nat→BitVec 8) (w:World) (h : ∀ i,i<8→w.cell? ⟨b,off+i,none⟩=some (B (x i))) :
  Calls Tryz.prog 119 #[.slice (some ⟨b,off,none⟩) 8 cap] w fun e w'=>e = .returned (U (word x)) ∧ ∃ n,w'=w.drewN n:=by
 have H:Hid (∀ i,i<8→w.cell? ⟨b,off+i,none⟩=some (B (x i))):=h
 clear h
 have c4:(4:Int)≤(cap:Int):=by omega
 have c8:(8:Int)≤(cap:Int):=by omega
 have c5 : ¬ cap=4:=by omega
 go_enter Tryz.func119,Tryz.ntmps119
 go_wp2_with fail
 refine RT.wp_rgn' [] (wfn b off cap x) (fun _=>0) (fun _ _ W => ∃ n,W=w.drewN n) (by kernel_rfl) (by kernel_rfl) ⟨1,rfl⟩ ?_ ?_
 ·refine ⟨?_,?_,?_,?_,?_,?_,?_,?_,?_,?_,?_,trivial⟩
  ·refine RT.ObT.pure rfl rfl rfl (fun a V hf hp ev he hc W => ?_)
   have q0:ev (.tmp 0) = .slice (some ⟨b,off,none⟩) 8 cap:=(he (.tmp 0)).trans (hf 0 rfl)
   simp only [List.getElem_toArray,List.getElem_cons_succ,List.getElem_cons_zero,execOp];rw [q0]
   first | (go_simp;done) | (go_simp;rfl)
  ·refine RT.ObT.pure rfl rfl rfl (fun a V hf hp ev he hc W => ?_)
   have q3:ev (.tmp 3) = .slice (some ⟨b,off,none⟩) 8 cap:=(he (.tmp 3)).trans (hp 0 3 rfl)
   simp only [List.getElem_toArray,List.getElem_cons_succ,List.getElem_cons_zero,execOp];rw [q3]
   try simp only [hc]
   first | (go_simp;done) | (go_simp;rfl)
  ·refine RT.ObT.silent rfl (fun a W k V hO hf hp hk => ?_)
   obtain ⟨n,rfl⟩:=hO
   have q:a.eval (.tmp 4) = .slice (some ⟨b,off,none⟩) 4 cap:=hp 1 4 rfl
   refine RT.ob_call (g:=136) (args := #[.slice (some ⟨b,off,none⟩) 4 cap]) rfl (RT.wanted_none rfl) (fun ev he hc => ?_) ((word32_q b off cap (x 0) (x 1) (x 2) (x 3) w n (H.out 0 (by omega)) (H.out 1 (by omega)) (H.out 2 (by omega)) (H.out 3 (by omega))).mono ?_)
   ·have e1:=(he (.tmp 4)).trans q
    have hfn:=he (.func 136)
    simp only [List.getElem_toArray,List.getElem_cons_succ,List.getElem_cons_zero,execOp]
    simp only [resolve,invoke,Sem.run_bind,Sem.run_pure,Result.andThen_ok,List.map_toArray,List.map_cons,List.map_nil,e1,hfn,Act.eval]
    rfl
   ·rintro e W' ⟨rfl,m,rfl⟩
    exact ⟨_,rfl,rfl,m,rfl⟩
  ·refine RT.ObT.pure rfl rfl rfl (fun a V hf hp ev he hc W => ?_)
   have q5:ev (.tmp 5)=Go.Proofs.YtkhjnjlinfbfoaaGreatDoor.Sh.U (Go.Proofs.YtkhjnjlinfbfoaaGreatDoor.Sh.word (x 0) (x 1) (x 2) (x 3)):=(he (.tmp 5)).trans (hp 2 5 rfl)
   simp only [List.getElem_toArray,List.getElem_cons_succ,List.getElem_cons_zero,execOp];rw [q5]
   first | (go_simp;done) | (go_simp;rfl)
  ·refine RT.ObT.pure rfl rfl rfl (fun a V hf hp ev he hc W => ?_)
   have q6:ev (.tmp 6)=U ((Go.Proofs.YtkhjnjlinfbfoaaGreatDoor.Sh.word (x 0) (x 1) (x 2) (x 3)).setWidth 64):=(he (.tmp 6)).trans (hp 3 6 rfl)
   simp only [List.getElem_toArray,List.getElem_cons_succ,List.getElem_cons_zero,execOp];rw [q6]
   try simp only [hc]
   first | (go_simp;done) | (go_simp;rfl)
  ·refine RT.ObT.pure rfl rfl rfl (fun a V hf hp ev he hc W => ?_)
   have q0:ev (.tmp 0) = .slice (some ⟨b,off,none⟩) 8 cap:=(he (.tmp 0)).trans (hf 0 rfl)
   simp only [List.getElem_toArray,List.getElem_cons_succ,List.getElem_cons_zero,execOp];rw [q0]
   first | (go_simp;done) | (go_simp;rfl)
  ·refine RT.ObT.pure rfl rfl rfl (fun a V hf hp ev he hc W => ?_)
   have q8:ev (.tmp 8) = .slice (some ⟨b,off,none⟩) 8 cap:=(he (.tmp 8)).trans (hp 5 8 rfl)
   simp only [List.getElem_toArray,List.getElem_cons_succ,List.getElem_cons_zero,execOp];rw [q8]
   try simp only [hc]
   first | (go_simp;done) | (go_simp;rfl)
  ·refine RT.ObT.silent rfl (fun a W k V hO hf hp hk => ?_)
   obtain ⟨n,rfl⟩:=hO
   have q:a.eval (.tmp 9) = .slice (some ⟨b,off+4,none⟩) 4 (cap - 4):=hp 6 9 rfl
   refine RT.ob_call (g:=136) (args := #[.slice (some ⟨b,off+4,none⟩) 4 (cap - 4)]) rfl (RT.wanted_none rfl) (fun ev he hc => ?_) ((word32_q b (off+4) (cap - 4) (x 4) (x 5) (x 6) (x 7) w n (H.out 4 (by omega)) (H.out 5 (by omega)) (H.out 6 (by omega)) (H.out 7 (by omega))).mono ?_)
   ·have e1:=(he (.tmp 9)).trans q
    have hfn:=he (.func 136)
    simp only [List.getElem_toArray,List.getElem_cons_succ,List.getElem_cons_zero,execOp]
    simp only [resolve,invoke,Sem.run_bind,Sem.run_pure,Result.andThen_ok,List.map_toArray,List.map_cons,List.map_nil,e1,hfn,Act.eval]
    rfl
   ·rintro e W' ⟨rfl,m,rfl⟩
    exact ⟨_,rfl,rfl,m,rfl⟩
  ·refine RT.ObT.pure rfl rfl rfl (fun a V hf hp ev he hc W => ?_)
   have q10:ev (.tmp 10)=Go.Proofs.YtkhjnjlinfbfoaaGreatDoor.Sh.U (Go.Proofs.YtkhjnjlinfbfoaaGreatDoor.Sh.word (x 4) (x 5) (x 6) (x 7)):=(he (.tmp 10)).trans (hp 7 10 rfl)
   simp only [List.getElem_toArray,List.getElem_cons_succ,List.getElem_cons_zero,execOp];rw [q10]
   first | (go_simp;done) | (go_simp;rfl)
  ·refine RT.ObT.pure rfl rfl rfl (fun a V hf hp ev he hc W => ?_)
   have q7:ev (.tmp 7)=U ((Go.Proofs.YtkhjnjlinfbfoaaGreatDoor.Sh.word (x 0) (x 1) (x 2) (x 3)).setWidth 64 <<< 32):=(he (.tmp 7)).trans (hp 4 7 rfl)
   have q11:ev (.tmp 11)=U ((Go.Proofs.YtkhjnjlinfbfoaaGreatDoor.Sh.word (x 4) (x 5) (x 6) (x 7)).setWidth 64):=(he (.tmp 11)).trans (hp 8 11 rfl)
   simp only [List.getElem_toArray,List.getElem_cons_succ,List.getElem_cons_zero,execOp];rw [q7,q11]
   first | (go_simp;done) | (go_simp;rfl)
  ·refine RT.ObT.pure rfl rfl rfl (fun a V hf hp ev he hc W => ?_)
   have q12:ev (.tmp 12)=U (word x):=(he (.tmp 12)).trans (hp 9 12 rfl)
   simp only [List.getElem_toArray,List.getElem_cons_succ,List.getElem_cons_zero,execOp];rw [q12]
   first | (go_simp;done) | (go_simp;rfl)
 ·intro w' V hO
  obtain ⟨n,rfl⟩:=hO
  simp only [RT.lay,RT.val,RT.at',wfn,Act.put]
  go_wp2
  go_ret
  exact ⟨by simp [Array.getD_eq_getD_getElem?,Array.getElem?_setIfInBounds],n,rfl⟩
end Go.Proofs.YtkhjnjlinfbfoaaGreatDoor.Sh.Q5
/- The schedule of SHA-512: what 'schedule512' answers. -/
namespace Go.Proofs.YtkhjnjlinfbfoaaGreatDoor.Sh.Q5
open Go Go.RowKit
attribute [local go_sem] u_xor u_and u_or u_add
attribute [local go_sem ↓] Go.wp_at_zero Go.wp_at_succ
structure Sched (m:Nat→BitVec 8) (W:Nat→BitVec 64):Prop where
 first : ∀ t,t<16→W t=word fun i=>m (8*t+i)
 later : ∀ t,16≤t→t<80→W t=lo1 (W (t - 2))+W (t - 7)+lo0 (W (t - 15))+W (t - 16)
def upto (W:Nat→BitVec 64) (k i:Nat):BitVec 64:=if i<k then W i else 0
def rowW (W:Nat→BitVec 64) (k:Nat):Array Value:=((List.range 80).map fun i=>U (upto W k i)).toArray
theorem rowW_get (W:Nat→BitVec 64) (k i:Nat) (h:i<80):(rowW W k)[i]? = some (U (upto W k i)):=by
 simp [rowW,h]
theorem rowW_size (W:Nat→BitVec 64) (k:Nat):(rowW W k).size=80:=by simp [rowW]
theorem rowW_set (W:Nat→BitVec 64) (k:Nat):(rowW W k).setIfInBounds k (U (W k))=rowW W (k+1):=by
 apply Array.ext_getElem?
 intro i
 by_cases hi:i<80
 ·rw [rowW_get W (k+1) i hi,Array.getElem?_setIfInBounds]
  by_cases e:k=i
  ·subst e;simp [rowW_size,hi,upto]
  ·rw [if_neg e,rowW_get W k i hi]
   have:upto W k i=upto W (k+1) i:=by
    unfold upto
    by_cases h1:i<k
    ·rw [if_pos h1,if_pos (by omega)]
    ·rw [if_neg h1,if_neg (by omega)]
   rw [this]
 ·rw [Array.getElem?_eq_none (by simp [rowW_size];omega),Array.getElem?_eq_none (by simp [rowW_size];omega)]
theorem rowW_one (W:Nat→BitVec 64) (k:Nat):(rowW W k).all (·.oneCell')=true :=
 all_oneCell_toArray (fun v hv=>by
  obtain ⟨i,_,rfl⟩:=List.mem_map.1 hv
  rfl)
structure SRel (w wr:World) (W:Nat→BitVec 64) (k:Nat):Prop where
 below:Below w.heap.size w wr
 size:wr.heap.size=w.heap.size+2
 row:wr.heap[w.heap.size+1]? = some (.cells (rowW W k) 103 (0,0))
 res:wr.heap[w.heap.size]? = some (.cells (rowW W 0) 103 (0,0))
theorem SRel.start (w:World) (W:Nat→BitVec 64):SRel w ((w.alloc (.cells (rowW W 0) 103)).alloc (.cells (rowW W 0) 103)) W 0 :=
 ⟨((Below.refl _ _).alloc (Nat.le_refl _) _).alloc (by simp) _,by simp,heap_alloc2_new _ _ _,heap_alloc2_old _ _ _⟩
theorem SRel.cell {w wr:World} {W:Nat→BitVec 64} {k:Nat} (h:SRel w wr W k) (i:Nat) (hi:i<80):wr.cell? ⟨w.heap.size+1,i,none⟩=some (U (upto W k i)):=by
 rw [cell_of_row wr _ i _ _ _ h.row];exact rowW_get W k i hi
theorem SRel.frozen {w wr:World} {W:Nat→BitVec 64} {k:Nat} (h:SRel w wr W k) (i:Nat):wr.frozen? ⟨w.heap.size+1,i,none⟩=false:=frozen_of_row _ _ _ _ _ h.row
theorem SRel.drewN {w wr:World} {W:Nat→BitVec 64} {k:Nat} (h:SRel w wr W k) (n:Nat):SRel w (wr.drewN n) W k:=by
 induction n with
 | zero=>exact h
 | succ n ih=>exact ⟨ih.below.drew,ih.size,ih.row,ih.res⟩
theorem SRel.set {w wr:World} {W:Nat→BitVec 64} {k:Nat} (h:SRel w wr W k):SRel w (wr.setCell ⟨w.heap.size+1,k,none⟩ (U (W k))) W (k+1) :=
 ⟨h.below.setCell (by simp) _,by simp [World.setCell];exact h.size,by rw [heap_setCell_same _ _ _ _ _ _ h.row,rowW_set],by rw [heap_setCell_other _ _ _ _ (by simp)];exact h.res⟩
theorem rowW_zero (W:Nat→BitVec 64):rowW W 0=(List.replicate 80 (Value.int .u64 0)).toArray:=by
 apply Array.ext_getElem?
 intro i
 by_cases hi:i<80
 ·rw [rowW_get W 0 i hi,List.getElem?_toArray,List.getElem?_replicate,if_pos hi,upto,if_neg (Nat.not_lt_zero i)];rfl
 ·rw [Array.getElem?_eq_none (by rw [rowW_size];omega),Array.getElem?_eq_none (by rw [List.size_toArray,List.length_replicate];omega)]
theorem keep_ne (wr:World) (g k i:Nat) (v:Value) (h:i≠k):((wr.setCell ⟨g,k,none⟩ v).drew).cell? ⟨g,i,none⟩=wr.cell? ⟨g,i,none⟩ :=
 World.cell?_setCell_other _ _ _ _ (fun e=>h (by cases e;rfl))
theorem zero_80 (w:World):(zeroValue 103).run Tryz.prog w = .ok (.agg (List.replicate 80 (Value.int .u64 0)).toArray) w:=by kernel_rfl
set_option maxRecDepth 100000 in
set_option maxHeartbeats 1000000 in
theorem sched_walk (m:Nat→BitVec 8) (W:Nat→BitVec 64) (hW:Sched m W) (b off n cap:Nat) (hn:128≤n) (hcap:n≤cap) (w:World) (hm : ∀ i,i<128→w.cell? ⟨b,off+i,none⟩=some (B (m i))) :
  Calls Tryz.prog 105 #[.slice (some ⟨b,off,none⟩) n cap] w fun e w'=>e = .returned (.agg (rowW W 80))∧Below w.heap.size w w':=by
 have HM:Hid (∀ i,i<128→w.cell? ⟨b,off+i,none⟩=some (B (m i))):=hm
 have hb:b<w.heap.size:=block_lt_of_cell (hm 0 (by omega))
 clear hm
 have hst:=SRel.start w W
 rw [rowW_zero] at hst
 have HST:Hid (SRel w ((w.alloc (.cells (List.replicate 80 (Value.int .u64 0)).toArray 103)).alloc (.cells (List.replicate 80 (Value.int .u64 0)).toArray 103)) W 0):=hst
 clear hst
 have hz:=zero_80
 go_enter Tryz.func105,Tryz.ntmps105
 go_wp2
 go_loopw [4,6] (fun _ i wr => ∃ k:Nat,k≤16∧i = .int .i64 k∧SRel w wr W k) (fun _ i _=>16 - (intOf i).toNat)
 case atStart=>exact ⟨0,by omega,rfl,HST.out⟩
 case round =>
  obtain ⟨k,hk,rfl,hr⟩:=hrel
  by_cases hlt:k<16
  ·have s1 : ∀ i,i<8→wr.cell? ⟨b,off+8*k+i,none⟩=some (B (m (8*k+i))):=fun i hi=>(hr.below.cell (p:=⟨b,off+8*k+i,none⟩) hb).trans (by rw [Nat.add_assoc];exact HM.out (8*k+i) (by omega))
   have S1:Hid (∀ i,i<8→wr.cell? ⟨b,off+8*k+i,none⟩=some (B (m (8*k+i)))):=s1
   clear s1
   have c1:=hr.cell k (by omega)
   have f1:=hr.frozen k
   have HR:Hid (SRel w _ W k):=hr
   clear hr
   go_wp2_with fail
   refine (word64_any b (off+8*k) _ (by omega) (fun i=>m (8*k+i)) _ S1.out).mono ?_
   rintro e w' ⟨rfl,nq,rfl⟩
   rw [←hW.first k hlt]
   go_wp2
   go_roundw
   case rel=>exact ⟨k+1,by omega,by go_num,(HR.out.drewN nq).set⟩
   case measure=>simp [intOf];omega
  ·obtain rfl:k=16:=by omega
   have HR:Hid (SRel w wr W 16):=hr
   clear hr
   go_wp2
   go_loopw [5] (fun i wr => ∃ k:Nat,16≤k∧k≤80∧i = .int .i64 k∧SRel w wr W k) (fun i _=>80 - (intOf i).toNat)
   case atStart=>exact ⟨16,by omega,by omega,rfl,HR.out⟩
   case round =>
    obtain ⟨k,hk1,hk,rfl,hr⟩:=hrel
    by_cases hlt:k<80
    ·have e1:(2:Int)≤(k:Int):=by omega
     have e2:(7:Int)≤(k:Int):=by omega
     have e3:(15:Int)≤(k:Int):=by omega
     have e4:(16:Int)≤(k:Int):=by omega
     have l0:(k:Int)<80:=by omega
     have l1:(k:Int) - 2<80:=by omega
     have l2:(k:Int) - 7<80:=by omega
     have l3:(k:Int) - 15<80:=by omega
     have l4:(k:Int) - 16<80:=by omega
     have w1:IntKind.i64.wrap ((k:Int) - 2)=(k:Int) - 2:=by simp [IntKind.wrap,IntKind.bits,IntKind.signed];omega
     have w2:IntKind.i64.wrap ((k:Int) - 7)=(k:Int) - 7:=by simp [IntKind.wrap,IntKind.bits,IntKind.signed];omega
     have w3:IntKind.i64.wrap ((k:Int) - 15)=(k:Int) - 15:=by simp [IntKind.wrap,IntKind.bits,IntKind.signed];omega
     have w4:IntKind.i64.wrap ((k:Int) - 16)=(k:Int) - 16:=by simp [IntKind.wrap,IntKind.bits,IntKind.signed];omega
     have n1:k - 2≠k:=by omega
     have n2:k - 7≠k:=by omega
     have n3:k - 15≠k:=by omega
     have n4:k - 16≠k:=by omega
     have t1:((k:Int) - 2).toNat=k - 2:=by omega
     have t2:((k:Int) - 7).toNat=k - 7:=by omega
     have t3:((k:Int) - 15).toNat=k - 15:=by omega
     have t4:((k:Int) - 16).toNat=k - 16:=by omega
     have c1:=hr.cell k (by omega)
     have f1:=hr.frozen k
     have d1:=hr.cell (k - 2) (by omega)
     have d2:=hr.cell (k - 7) (by omega)
     have d3:=hr.cell (k - 15) (by omega)
     have d4:=hr.cell (k - 16) (by omega)
     rw [upto,if_pos (by omega)] at d1 d2 d3 d4
     have HR:Hid (SRel w _ W k):=hr
     clear hr
     go_wp2_with fail
     go_region_held3 (fun w'=>w'.cell? ⟨w.heap.size+1,k - 2,none⟩=some (U (W (k - 2)))∧w'.cell? ⟨w.heap.size+1,k - 7,none⟩=some (U (W (k - 7)))∧w'.cell? ⟨w.heap.size+1,k - 15,none⟩=some (U (W (k - 15)))∧w'.cell? ⟨w.heap.size+1,k - 16,none⟩=some (U (W (k - 16)))) (first | exact ⟨d1,d2,d3,d4⟩ | exact ⟨(keep_ne _ _ _ _ _ n1).trans d1,(keep_ne _ _ _ _ _ n2).trans d2,(keep_ne _ _ _ _ _ n3).trans d3,(keep_ne _ _ _ _ _ n4).trans d4⟩)
      (first | (go_at_call 120;refine (lo1_any _ _).mono ?_;rintro e w' ⟨rfl,rfl⟩) | (go_at_call 121;refine (lo0_any _ _).mono ?_;rintro e w' ⟨rfl,rfl⟩))
     have hl:lo1 (W (k - 2))+W (k - 7)+lo0 (W (k - 15))+W (k - 16)=W k:=(hW.later k hk1 hlt).symm
     rw [hl]
     clear hl
     go_wp2
     go_roundw
     case rel =>
      (repeat apply Exists.intro)
      exact ⟨⟨k+1,by omega,by omega,by go_num,(HR.out.set).drewN 1⟩,rfl⟩
     case measure=>simp [intOf];omega
    ·obtain rfl:k=80:=by omega
     have HR:Hid (SRel w _ W 80):=hr
     have hrow:=hr.row
     clear hr
     have hres:=HR.out.res
     have ht:wr.there w.heap.size 0 (rowW W 80).size:=by rw [rowW_size];exact there_of_row hres 0 80 (by rw [rowW_size];omega)
     have HT:Hid (wr.there w.heap.size 0 (rowW W 80).size):=ht
     clear ht hres
     go_wp2_with (first | (refine wpList_load_row rfl 103 _ rfl _ rfl _ _ _ _ hrow Tryz.underlying103 rfl (by rw [rowW_size];kernel_rfl) ?_) | (refine wpList_store_mid rfl 103 _ _ rfl w.heap.size 0 (rowW W 80) rfl rfl HT.out (by rw [rowW_size];kernel_rfl) (by exact rowW_one W 80) ?_))
     refine bodyPost_ret (v := .agg (rowW W 80)) ?_ rfl ⟨rfl,?_⟩
     ·exact results_mid Tryz.results105 _ _ w.heap.size 0 (rowW W 80).toList _ rfl (World.rangeAt_setCells_same _ _ _ _ HT.out) Tryz.underlying103 rfl (by rw [Array.length_toList,rowW_size];kernel_rfl)
     ·exact below_setCells _ (Nat.le_refl _) _ _ _ HR.out.below
end Go.Proofs.YtkhjnjlinfbfoaaGreatDoor.Sh.Q5
