/- The reference's Times. -/
import Derived.Test.YtkhjnjlinfbfoaaGreatDoorFieRG
set_option linter.unusedSimpArgs false
set_option linter.unusedVariables false
namespace Go.Proofs.YtkhjnjlinfbfoaaGreatDoor
open Go Go.RowKit Go.Lib
set_option maxRecDepth 100000
theorem lit8:(#[.int .u64 0,.int .u64 0,.int .u64 0,.int .u64 0,.int .u64 0,.int .u64 0,.int .u64 0,.int .u64 0]:Array Value)=(l8 0).toArray:=by kernel_rfl
structure TW (w:World) (a b:Nat) (wr:World) (N:Nat):Prop where
 ss:SS w [(w.heap.size,nl a,40),(w.heap.size+1,nl b,40)] (w.heap.size+1+1) 4 wr
 row:wr.heap[w.heap.size+1+1+1]? = some (.cells (l8 N).toArray 93 (0,0))
theorem TW.drew {w wr:World} {a b N:Nat} (h:TW w a b wr N):TW w a b wr.drew N:=⟨h.ss.drew,h.row⟩
theorem TW.put {w wr:World} {a b N k v:Nat} (h:TW w a b wr N) (hk:k<8) (hv:v<BB):TW w a b (wr.setCell ⟨w.heap.size+1+1+1,k,none⟩ (.int .u64 (v:Int))) (upw N k v) :=
 ⟨h.ss.cell (by omega) (ne2 (by omega) (by omega)) _,set_l8 hv hk h.row⟩
theorem TW.start (w:World) (a b:Nat):TW w a b ((((w.alloc (.cells (nl a).toArray 40)).alloc (.cells (nl b).toArray 40)).alloc (.cells #[.int .u64 0,.int .u64 0,.int .u64 0,.int .u64 0] 40)).alloc (.cells #[.int .u64 0,.int .u64 0,.int .u64 0,.int .u64 0,.int .u64 0,.int .u64 0,.int .u64 0,.int .u64 0] 93)) 0:=by
 refine ⟨?_,by rw [←lit8];exact heap_alloc_here _ _ _ (by simp)⟩
 have h1:SS w [(w.heap.size,nl a,40)] (w.heap.size+1+1) 4 ((((w.alloc (.cells (nl a).toArray 40)).alloc (.cells (nl b).toArray 40)).alloc (.cells #[.int .u64 0,.int .u64 0,.int .u64 0,.int .u64 0] 40)).alloc (.cells #[.int .u64 0,.int .u64 0,.int .u64 0,.int .u64 0,.int .u64 0,.int .u64 0,.int .u64 0,.int .u64 0] 93)):=by
  refine ⟨((((Below.refl _ _).alloc (Nat.le_refl _) _).alloc (by simp) _).alloc (by simp;omega) _).alloc (by simp;omega) _,?_,there_of_row ((heap_alloc_past _ _ _ (by simp)).trans (heap_alloc_here _ _ _ (by simp))) 0 4 (by simp)⟩
  intro i g L t hm
  match i,hm with
  | 0,hm =>
   cases hm
   exact (heap_alloc_past _ _ _ (by simp only [World.size_alloc];omega)).trans ((heap_alloc_past _ _ _ (by simp only [World.size_alloc];omega)).trans ((heap_alloc_past _ _ _ (by simp only [World.size_alloc];omega)).trans (heap_alloc_here _ _ _ rfl)))
 exact h1.add (nl b) _ ((heap_alloc_past _ _ _ (by simp only [World.size_alloc];omega)).trans ((heap_alloc_past _ _ _ (by simp only [World.size_alloc];omega)).trans (heap_alloc_here _ _ _ (by simp))))
theorem word_cell {w:World} {g n i:Nat} {t:TypeId} (h:w.heap[g]? = some (.cells (nl n).toArray t (0,0))) (hi:i<4):w.cell? ⟨g,i,none⟩=some (.int .u64 (lw n i)):=by
 rw [cell_of_row w g i _ t _ h];exact nl_get n i hi
theorem word8_cell {w:World} {g n i:Nat} {t:TypeId} (h:w.heap[g]? = some (.cells (l8 n).toArray t (0,0))) (hi:i<8):w.cell? ⟨g,i,none⟩=some (.int .u64 (lw n i)):=by
 rw [cell_of_row w g i _ t _ h];exact l8_get n i hi
theorem addN0 (x y:Nat) (w:World):(callFunc 82 #[.int .u64 (x:Int),.int .u64 (y:Int),.int .u64 0]).run Tryz.prog w = .ok (.value (.tuple #[.int .u64 (((x+y) % BB:Nat):Int),.int .u64 (((x+y)/BB:Nat):Int)])) w:=by
 rw [add64_0 (x:Int) (y:Int) (by omega) (by omega)]
 congr 5 <;> omega
theorem addWN (x y c:Nat) (hc:c≤1) (w:World):(callFunc 82 #[.int .u64 (x:Int),.int .u64 (y:Int),.int .u64 (c:Int)]).run Tryz.prog w = .ok (.value (.tuple #[.int .u64 (((x+y+c) % BB:Nat):Int),.int .u64 (((x+y+c)/BB:Nat):Int)])) w:=by
 rw [add64 (x:Int) (y:Int) (c:Int) (by omega) (by omega) (by omega) (by omega)]
 congr 5 <;> omega
theorem carry_lt (x y h l n c l1 c1 l2 c2:Nat) (hx:x<BB) (hy:y<BB) (hn:n<BB) (hc:c<BB) (e0:x*y=h*BB+l) (e1:l1+c1*BB=l+n) (e2:l2+c2*BB=l1+c):h+c1+c2<BB:=by
 have h1:x*y≤(BB - 1)*(BB - 1):=Nat.mul_le_mul (by omega) (by omega)
 have e3:=mix BB h l c1 c2 l1 l2 n c _ e0 e1 e2
 simp only [BB] at *
 omega
theorem TW.alloc {w wr:World} {a b N:Nat} (h:TW w a b wr N) (o:Obj):TW w a b (wr.alloc o) N:=⟨h.ss.alloc o,(heap_alloc_past _ _ _ (lt_of_heap h.row)).trans h.row⟩
theorem TW.cell {w wr:World} {a b N g k:Nat} (h:TW w a b wr N) (hg:w.heap.size+1+1+1<g) (v:Value):TW w a b (wr.setCell ⟨g,k,none⟩ v) N :=
 ⟨h.ss.cell (by omega) (ne2 (by omega) (by omega)) v,(heap_setCells_past g (w.heap.size+1+1+1) (by omega) [v] k wr).trans h.row⟩
theorem nl_mod (N:Nat):(nl (N % BB ^ 4)).toArray=(nl N).toArray:=by
 have e:(BB:Nat) ^ 4=256 ^ 32:=by decide
 have g:=fun j (hj:j<4)=>lw_low1 N 32 j (by omega)
 rw [e]
 simp only [nl,g 0 (by omega),g 1 (by omega),g 2 (by omega),g 3 (by omega)]
theorem wd_up (N i:Nat):wd (N/BB ^ 4) i=wd N (i+4):=by
 unfold wd
 rw [Nat.div_div_eq_div_mul,←Nat.pow_add,Nat.add_comm 4 i]
theorem fold_mod (N O x:Nat) (hN:N<BB ^ 4*BB ^ 4) (h:O+x*BB ^ 4=N % BB ^ 4+38*(N/BB ^ 4 % BB ^ 4)):(O+x*RN) % pp=N % pp:=by
 have h1:N/BB ^ 4<BB ^ 4:=by rw [Nat.div_lt_iff_lt_mul (bpos 4)];exact hN
 rw [Nat.mod_eq_of_lt h1] at h
 have h2:=Nat.div_add_mod N (BB ^ 4)
 have e:(BB:Nat) ^ 4=RN:=by decide
 rw [e] at h h1 h2 hN
 rw [h]
 generalize N/RN=q at *
 generalize N % RN=r at *
 subst h2
 simp only [RN,pp] at *
 omega
def tFold (n:Nat):Nat:=n % RN+38*(n/RN)
set_option maxRecDepth 100000 in
set_option maxHeartbeats 4000000 in
theorem rtimesX_nat (a b:Nat) (ha:a<RN) (hb:b<RN) (w:World) :
  Calls Tryz.prog 47 #[.agg (nl a).toArray,.agg (nl b).toArray] w fun e w' => ∃ s,s<RN∧e = .returned (.agg (nl s).toArray)∧(s % pp=(a*b) % pp∧s=fX (tFold (a*b)))∧Below w.heap.size w w':=by
 have HT0:Hid (TW w a b ((((w.alloc (.cells (nl a).toArray 40)).alloc (.cells (nl b).toArray 40)).alloc (.cells #[.int .u64 0,.int .u64 0,.int .u64 0,.int .u64 0] 40)).alloc (.cells #[.int .u64 0,.int .u64 0,.int .u64 0,.int .u64 0,.int .u64 0,.int .u64 0,.int .u64 0,.int .u64 0] 93)) 0):=TW.start w a b
 go_enter Tryz.func47,Tryz.ntmps47
 go_wp2
 go_loopw [19] (fun i wr => ∃ k:Nat,k≤4∧i = .int .i64 k∧TW w a b wr ((a % BB ^ k)*b)) (fun i _=>4 - (intOf i).toNat)
 case atStart=>exact ⟨0,by omega,rfl,by rw [Nat.pow_zero,Nat.mod_one,Nat.zero_mul];exact HT0.out⟩
 case round =>
  obtain ⟨k,hk,rfl,htw⟩:=hrel
  have HW:Hid (TW w a b wr ((a % BB ^ k)*b)):=htw
  clear htw
  by_cases hk4:k<4
  ·have hk4':(k:Int)<4:=by omega
   have HN0:Hid ((a % BB ^ k)*b<BB ^ (k+4)):=by
    have h1:=Nat.mod_lt a (bpos k)
    have h2:(a % BB ^ k)*b<BB ^ k*BB ^ 4:=Nat.mul_lt_mul'' h1 hb
    rw [←Nat.pow_add] at h2
    exact h2
   go_wp2
   go_loopw [7,22] (fun c jj wq => ∃ j N cy:Nat,j≤4∧jj = .int .i64 j∧c = .int .u64 cy∧cy<BB∧N<BB ^ (k+4)∧N+cy*BB ^ (k+j)=(a % BB ^ k)*b+wd a k*(b % BB ^ j)*BB ^ k∧TW w a b wq N) (fun _ jj _=>4 - (intOf jj).toNat)
   case atStart=>exact ⟨0,_,0,by omega,rfl,rfl,by decide,HN0.out,by rw [Nat.pow_zero,Nat.mod_one];simp,HW.out⟩
   case round =>
    obtain ⟨j,N,cy,hj,rfl,rfl,hcy,hN,hsum,htq⟩:=hrel
    have HQ:Hid (TW w a b wr N):=htq
    have HSUM:Hid (N+cy*BB ^ (k+j)=(a % BB ^ k)*b+wd a k*(b % BB ^ j)*BB ^ k):=hsum
    have HNL:Hid (N<BB ^ (k+4)):=hN
    clear htq hsum hN HN0 HW
    by_cases hj4:j<4
    ·have hj4':(j:Int)<4:=by omega
     go_wp2_with fail
     refine wp_region_held_drew (S:=(fun w'=>SS w [(w.heap.size,nl a,40),(w.heap.size+1,nl b,40)] (w.heap.size+1+1) 4 w')) (by kernel_rfl) ?_ (fun hHeld => ?_)
     ·exact HQ.out.ss.drew
     refine take1 (i:=0) (v := ?_) 26 rfl rfl (by kernel_rfl) (by kernel_rfl) (by kernel_rfl) (fun _ _ _ h=>h) (Or.inl ⟨by rfl,?_⟩) hHeld ?_
     rotate_left 1
     ·intro w hSw;go_simp <;> with_reducible rfl
     simp only [Act.put,List.setIfInBounds_toArray,List.set_cons_zero,List.set_cons_succ]
     refine take1 (i:=1) (v := ?_) 27 rfl rfl (by kernel_rfl) (by kernel_rfl) (by kernel_rfl) (fun _ _ _ h=>h) (Or.inl ⟨by rfl,?_⟩) hHeld ?_
     rotate_left 1
     ·intro w hSw;go_simp <;> with_reducible rfl
     simp only [Act.put,List.setIfInBounds_toArray,List.set_cons_zero,List.set_cons_succ]
     refine take1 (i:=2) (v := ?_) 28 rfl rfl (by kernel_rfl) (by kernel_rfl) (by kernel_rfl) (fun _ _ _ h=>h) (Or.inl ⟨by rfl,?_⟩) hHeld ?_
     rotate_left 1
     ·intro w hSw;have ca:=word_cell (i:=k) (hSw.holds 0 _ _ _ rfl) hk4;go_simp <;> with_reducible rfl
     simp only [Act.put,List.setIfInBounds_toArray,List.set_cons_zero,List.set_cons_succ]
     refine take1 (i:=3) (v := ?_) 29 rfl rfl (by kernel_rfl) (by kernel_rfl) (by kernel_rfl) (fun _ _ _ h=>h) (Or.inl ⟨by rfl,?_⟩) hHeld ?_
     rotate_left 1
     ·intro w hSw;go_simp <;> with_reducible rfl
     simp only [Act.put,List.setIfInBounds_toArray,List.set_cons_zero,List.set_cons_succ]
     refine take1 (i:=4) (v := ?_) 30 rfl rfl (by kernel_rfl) (by kernel_rfl) (by kernel_rfl) (fun _ _ _ h=>h) (Or.inl ⟨by rfl,?_⟩) hHeld ?_
     rotate_left 1
     ·intro w hSw;go_simp <;> with_reducible rfl
     simp only [Act.put,List.setIfInBounds_toArray,List.set_cons_zero,List.set_cons_succ]
     refine take1 (i:=5) (v := ?_) 31 rfl rfl (by kernel_rfl) (by kernel_rfl) (by kernel_rfl) (fun _ _ _ h=>h) (Or.inl ⟨by rfl,?_⟩) hHeld ?_
     rotate_left 1
     ·intro w hSw;have cb:=word_cell (i:=j) (hSw.holds 1 _ _ _ rfl) hj4;go_simp <;> with_reducible rfl
     simp only [Act.put,List.setIfInBounds_toArray,List.set_cons_zero,List.set_cons_succ]
     refine wpAnyH_ready (rs:=[6]) (by kernel_rfl) (by simp) ?_
     refine AllReadyH.cons rfl (fun K hK => ?_) AllReadyH.nil
     go_simp
     go_at_call 73
     refine (mul64 (lw a k) (lw b j) (lw_word a k) (lw_word b j) _).mono ?_
     rintro e wM ⟨hI,lI,rfl,hh,hl,em,rfl⟩
     refine hK.out _ _ ?_ (fun hHeld => ?_)
     ·exact hHeld
     clear hK K
     try simp only [Act.put,List.setIfInBounds_toArray,List.set_cons_zero,List.set_cons_succ]
     refine take1 (i:=7) (v := ?_) 25 rfl rfl (by kernel_rfl) (by kernel_rfl) (by kernel_rfl) (fun _ _ _ h=>h) (Or.inl ⟨by rfl,?_⟩) hHeld ?_
     rotate_left 1
     ·intro w hSw;go_simp <;> with_reducible rfl
     simp only [Act.put,List.setIfInBounds_toArray,List.set_cons_zero,List.set_cons_succ]
     refine take1 (i:=8) (v := ?_) 33 rfl rfl (by kernel_rfl) (by kernel_rfl) (by kernel_rfl) (fun _ _ _ h=>h) (Or.inl ⟨by rfl,?_⟩) hHeld ?_
     rotate_left 1
     ·intro w hSw;go_simp <;> with_reducible rfl
     simp only [Act.put,List.setIfInBounds_toArray,List.set_cons_zero,List.set_cons_succ]
     refine take1 (i:=9) (v := ?_) 34 rfl rfl (by kernel_rfl) (by kernel_rfl) (by kernel_rfl) (fun _ _ _ h=>h) (Or.inl ⟨by rfl,?_⟩) hHeld ?_
     rotate_left 1
     ·intro w hSw;go_simp <;> with_reducible rfl
     simp only [Act.put,List.setIfInBounds_toArray,List.set_cons_zero,List.set_cons_succ]
     refine take1 (i:=10) (v := ?_) 9 rfl rfl (by kernel_rfl) (by kernel_rfl) (by kernel_rfl) (fun _ _ _ h=>h) (Or.inl ⟨by rfl,?_⟩) hHeld ?_
     rotate_left 1
     ·intro w hSw;go_simp <;> with_reducible rfl
     simp only [Act.put,List.setIfInBounds_toArray,List.set_cons_zero,List.set_cons_succ]
     refine take1 (i:=11) (v := ?_) 10 rfl rfl (by kernel_rfl) (by kernel_rfl) (by kernel_rfl) (fun _ _ _ h=>h) (Or.inl ⟨by rfl,?_⟩) hHeld ?_
     rotate_left 1
     ·intro w hSw;go_simp <;> with_reducible rfl
     simp only [Act.put,List.setIfInBounds_toArray,List.set_cons_zero,List.set_cons_succ]
     refine wpAnyH_done (by kernel_rfl) ?_ _
     obtain ⟨h,rfl⟩:=Int.eq_ofNat_of_zero_le hh.1
     obtain ⟨l,rfl⟩:=Int.eq_ofNat_of_zero_le hl.1
     obtain ⟨n,hn⟩ : ∃ n,n=wd N (k+j):=⟨_,rfl⟩
     obtain ⟨l1,q1⟩ : ∃ x,x=(l+n) % BB:=⟨_,rfl⟩
     obtain ⟨c1,p1⟩ : ∃ x,x=(l+n)/BB:=⟨_,rfl⟩
     obtain ⟨l2,q2⟩ : ∃ x,x=(l1+cy) % BB:=⟨_,rfl⟩
     obtain ⟨c2,p2⟩ : ∃ x,x=(l1+cy)/BB:=⟨_,rfl⟩
     have s1 : ∀ w,(callFunc 82 #[.int .u64 (l:Int),.int .u64 (n:Int),.int .u64 0]).run Tryz.prog w = .ok (.value (.tuple #[.int .u64 (l1:Int),.int .u64 (c1:Int)])) w:=fun w=>by rw [q1,p1];exact addN0 l n w
     have s2 : ∀ w,(callFunc 82 #[.int .u64 (l1:Int),.int .u64 (cy:Int),.int .u64 0]).run Tryz.prog w = .ok (.value (.tuple #[.int .u64 (l2:Int),.int .u64 (c2:Int)])) w:=fun w=>by rw [q2,p2];exact addN0 l1 cy w
     have cw:wr.drew.cell? ⟨w.heap.size+1+1+1,k+j,none⟩=some (.int .u64 (n:Int)):=by rw [word8_cell HQ.out.drew.row (by omega),lw_wd,hn]
     have fw:wr.drew.frozen? ⟨w.heap.size+1+1+1,k+j,none⟩=false:=frozen_of_row _ _ _ _ _ HQ.out.drew.row
     have e0:wd a k*wd b j=h*BB+l:=by
      have:=em
      rw [lw_wd,lw_wd,←Int.natCast_mul] at this
      simp only [BB];omega
     have e1:l1+c1*BB=l+n:=by rw [q1,p1];simp only [BB];omega
     have e2:l2+c2*BB=l1+cy:=by rw [q2,p2];simp only [BB];omega
     have hlt:=carry_lt (wd a k) (wd b j) h l n cy l1 c1 l2 c2 (wd_lt _ _) (wd_lt _ _) (by rw [hn];exact wd_lt _ _) hcy e0 e1 e2
     have hl2:l2<BB:=by rw [q2];exact Nat.mod_lt _ (by decide)
     have HSTEP:Hid (upw N (k+j) l2+(h+c1+c2)*BB ^ (k+(j+1))=(a % BB ^ k)*b+wd a k*(b % BB ^ (j+1))*BB ^ k):=inner_step N cy (k+j) k j a b h l l1 c1 l2 c2 rfl e0 (by rw [e1,hn]) e2 _ HSUM.out
     have HLT:Hid (upw N (k+j) l2<BB ^ (k+4)):=upw_lt N (k+j) l2 (k+4) HNL.out (by omega) hl2
     have HPUT:Hid (TW w a b (wr.drew.setCell ⟨w.heap.size+1+1+1,k+j,none⟩ (.int .u64 (l2:Int))) (upw N (k+j) l2)):=HQ.out.drew.put (by omega) hl2
     have w1:IntKind.u64.wrap ((h:Int)+(c1:Int))=(h:Int)+(c1:Int):=by rw [IntKind.wrap_u64];simp only [BB] at hlt;omega
     have w2:IntKind.u64.wrap ((h:Int)+(c1:Int)+(c2:Int))=(h:Int)+(c1:Int)+(c2:Int):=by rw [IntKind.wrap_u64];simp only [BB] at hlt;omega
     have hkj:k+j<8:=by omega
     have hkj':(k:Int)+(j:Int)<8:=by omega
     have HLTC:Hid (h+c1+c2<BB):=hlt
     clear hn q1 p1 q2 p2 e0 e1 e2 hlt em hHeld
     go_wp2
     go_roundw
     case rel=>exact ⟨j+1,upw N (k+j) l2,h+c1+c2,by omega,by go_num,congrArg (Value.int .u64) (by omega),HLTC.out,HLT.out,HSTEP.out,HPUT.out⟩
     case measure=>simp [intOf];omega
    ·obtain rfl:j=4:=by omega
     have hb4:b % BB ^ 4=b:=Nat.mod_eq_of_lt hb
     have hw0:wd N (k+4)=0:=by unfold wd;rw [Nat.div_eq_of_lt HNL.out];rfl
     have HV:Hid (upw N (k+4) cy=(a % BB ^ (k+1))*b):=by
      have u:=upw_sum N (k+4) cy
      rw [hw0,Nat.zero_mul,Nat.add_zero] at u
      show _=_
      rw [u,HSUM.out,hb4,low_succ,Nat.add_mul,Nat.mul_comm (BB ^ k) (wd a k),Nat.mul_right_comm]
     have HP0:TW w a b (wr.setCell ⟨w.heap.size+1+1+1,k+4,none⟩ (.int .u64 (cy:Int))) (upw N (k+4) cy):=HQ.out.put (by omega) hcy
     rw [HV.out] at HP0
     have HPUT:Hid (TW w a b (wr.setCell ⟨w.heap.size+1+1+1,k+4,none⟩ (.int .u64 (cy:Int))) ((a % BB ^ (k+1))*b)):=HP0
     have cw:wr.cell? ⟨w.heap.size+1+1+1,k+4,none⟩=some (.int .u64 (lw N (k+4))):=word8_cell HQ.out.row (by omega)
     have fw:wr.frozen? ⟨w.heap.size+1+1+1,k+4,none⟩=false:=frozen_of_row _ _ _ _ _ HQ.out.row
     have hk8:(k:Int)+4<8:=by omega
     clear hb4 hw0 HP0
     go_wp2
     go_roundw
     case rel=>exact ⟨k+1,by omega,by go_num,HPUT.out⟩
     case measure=>simp [intOf];omega
  ·obtain rfl:k=4:=by omega
   have eR:(BB:Nat) ^ 4=RN:=by decide
   obtain ⟨N,hN⟩ : ∃ N,N=a*b:=⟨_,rfl⟩
   have hw0:=HW.out
   rw [Nat.mod_eq_of_lt (by rw [eR];exact ha),←hN] at hw0
   have HNB:Hid (N<BB ^ 4*BB ^ 4):=by show _<_;rw [hN,eR];exact Nat.mul_lt_mul'' ha hb
   have HEQ:Hid (N=a*b):=hN
   have HW1:Hid (TW w a b wr N):=hw0
   obtain ⟨g,hg⟩ : ∃ g,g=wr.heap.size:=⟨_,rfl⟩
   have hgW:w.heap.size+1+1+1<g:=by rw [hg];exact lt_of_heap hw0.row
   have c0:wr.cell? ⟨w.heap.size+1+1+1,0,none⟩=some (.int .u64 (lw N 0)):=word8_cell hw0.row (by omega)
   have c1:wr.cell? ⟨w.heap.size+1+1+1,1,none⟩=some (.int .u64 (lw N 1)):=word8_cell hw0.row (by omega)
   have c2:wr.cell? ⟨w.heap.size+1+1+1,2,none⟩=some (.int .u64 (lw N 2)):=word8_cell hw0.row (by omega)
   have c3:wr.cell? ⟨w.heap.size+1+1+1,3,none⟩=some (.int .u64 (lw N 3)):=word8_cell hw0.row (by omega)
   have HSTART:Hid (∃ i O hi cy:Nat,i≤4∧Value.int .i64 0 = .int .i64 (i:Int)∧Value.int .u64 0 = .int .u64 (hi:Int)∧Value.int .u64 0 = .int .u64 (cy:Int)∧hi≤38∧cy≤1∧O<BB ^ 4∧O+(hi+cy)*BB ^ i=N % BB ^ 4+38*(N/BB ^ 4 % BB ^ i)∧TW w a b (wr.alloc (.cells #[.int .u64 (lw N 0),.int .u64 (lw N 1),.int .u64 (lw N 2),.int .u64 (lw N 3)] 40)) N∧(wr.alloc (.cells #[.int .u64 (lw N 0),.int .u64 (lw N 1),.int .u64 (lw N 2),.int .u64 (lw N 3)] 40)).heap[g]? = some (.cells (nl O).toArray 40 (0,0))):=by
    refine ⟨0,N % BB ^ 4,0,0,by omega,rfl,rfl,rfl,by omega,by omega,Nat.mod_lt _ (bpos 4),?_,hw0.alloc _,?_⟩
    ·rw [Nat.pow_zero,Nat.mod_one]
    ·rw [nl_mod];exact heap_alloc_here _ _ _ hg
   clear hw0 hN HW
   go_wp2
   rw [←hg]
   clear hg
   try rw [show ((4:Nat):Int)=4 from rfl]
   go_loopw [13,14,78] (fun hv cv iv wq => ∃ i O hi cy:Nat,i≤4∧iv = .int .i64 i∧hv = .int .u64 hi∧cv = .int .u64 cy∧hi≤38∧cy≤1∧O<BB ^ 4∧O+(hi+cy)*BB ^ i=N % BB ^ 4+38*(N/BB ^ 4 % BB ^ i)∧TW w a b wq N∧wq.heap[g]? = some (.cells (nl O).toArray 40 (0,0))) (fun _ _ iv _=>4 - (intOf iv).toNat)
   case atStart=>exact HSTART.out
   case round =>
    obtain ⟨i,O,hi,cy,hi4,rfl,rfl,rfl,hhi,hcy,hO,hsum,htw,hout⟩:=hrel
    have HQ:Hid (TW w a b wr N):=htw
    have HO:Hid (wr.heap[g]? = some (.cells (nl O).toArray 40 (0,0))):=hout
    have HSUM:Hid (O+(hi+cy)*BB ^ i=N % BB ^ 4+38*(N/BB ^ 4 % BB ^ i)):=hsum
    have HOL:Hid (O<BB ^ 4):=hO
    clear htw hout hsum hO c0 c1 c2 c3 HSTART HW1
    by_cases hi5:i<4
    ·have hi5':(i:Int)<4:=by omega
     have hi8':(i:Int)+4<8:=by omega
     have cw:wr.cell? ⟨w.heap.size+1+1+1,i+4,none⟩=some (.int .u64 (lw N (i+4))):=word8_cell HQ.out.row (by omega)
     go_wp2_with fail
     refine (mul64 (lw N (i+4)) 38 (lw_word N (i+4)) ⟨by decide,by decide⟩ _).mono ?_
     rintro e w' ⟨hI,lI,rfl,hh,hl,em,rfl⟩
     obtain ⟨h,rfl⟩:=Int.eq_ofNat_of_zero_le hh.1
     obtain ⟨l,rfl⟩:=Int.eq_ofNat_of_zero_le hl.1
     obtain ⟨n,hn⟩ : ∃ n,n=wd O i:=⟨_,rfl⟩
     obtain ⟨l1,q1⟩ : ∃ x,x=(l+hi) % BB:=⟨_,rfl⟩
     obtain ⟨c1,p1⟩ : ∃ x,x=(l+hi)/BB:=⟨_,rfl⟩
     obtain ⟨v,q2⟩ : ∃ x,x=(n+l1+cy) % BB:=⟨_,rfl⟩
     obtain ⟨c2,p2⟩ : ∃ x,x=(n+l1+cy)/BB:=⟨_,rfl⟩
     have s1 : ∀ w,(callFunc 82 #[.int .u64 (l:Int),.int .u64 (hi:Int),.int .u64 0]).run Tryz.prog w = .ok (.value (.tuple #[.int .u64 (l1:Int),.int .u64 (c1:Int)])) w:=fun w=>by rw [q1,p1];exact addN0 l hi w
     have s2 : ∀ w,(callFunc 82 #[.int .u64 (n:Int),.int .u64 (l1:Int),.int .u64 (cy:Int)]).run Tryz.prog w = .ok (.value (.tuple #[.int .u64 (v:Int),.int .u64 (c2:Int)])) w:=fun w=>by rw [q2,p2];exact addWN n l1 cy hcy w
     have co:wr.cell? ⟨g,i,none⟩=some (.int .u64 (n:Int)):=by rw [word_cell HO.out hi5,lw_wd,hn]
     have fo:wr.frozen? ⟨g,i,none⟩=false:=frozen_of_row _ _ _ _ _ HO.out
     have e0:wd (N/BB ^ 4) i*38=h*BB+l:=by
      have:=em
      rw [lw_wd] at this
      rw [wd_up]
      simp only [BB];omega
     have hwl:=wd_lt (N/BB ^ 4) i
     have hll:l<BB:=by have:=hl.2;simp only [BB];omega
     have hnl:n<BB:=by rw [hn];exact wd_lt _ _
     have e1:l1+c1*BB=l+hi:=by rw [q1,p1];simp only [BB];omega
     have e2:v+c2*BB=wd O i+l1+cy:=by rw [←hn,q2,p2];simp only [BB];omega
     have hh37:h≤37:=by simp only [BB] at *;omega
     have hc1:c1≤1:=by rw [p1];simp only [BB] at *;omega
     have hc2:c2≤1:=by
      have:l1<BB:=by rw [q1];exact Nat.mod_lt _ (by decide)
      rw [p2];simp only [BB] at *;omega
     have hvl:v<BB:=by rw [q2];exact Nat.mod_lt _ (by decide)
     have HSTEP:Hid (upw O i v+(h+c1+c2)*BB ^ (i+1)=N % BB ^ 4+38*(N/BB ^ 4 % BB ^ (i+1))):=outer_step O (N/BB ^ 4) i h l hi l1 c1 v c2 cy _ e0 e1 e2 HSUM.out
     have HLT:Hid (upw O i v<BB ^ 4):=upw_lt O i v 4 HOL.out hi5 hvl
     have HPUT:Hid ((wr.setCell ⟨g,i,none⟩ (.int .u64 (v:Int))).heap[g]? = some (.cells (nl (upw O i v)).toArray 40 (0,0))):=set_l4 hvl hi5 HO.out
     have HTW:Hid (TW w a b (wr.setCell ⟨g,i,none⟩ (.int .u64 (v:Int))) N):=HQ.out.cell hgW _
     have w1:IntKind.u64.wrap ((h:Int)+(c1:Int))=(h:Int)+(c1:Int):=by rw [IntKind.wrap_u64];omega
     clear hn q1 p1 q2 p2 e0 e1 e2 em hwl hll hnl hvl
     go_wp2
     go_roundw
     case rel=>exact ⟨i+1,upw O i v,h+c1,c2,by omega,by go_num,congrArg (Value.int .u64) (by omega),rfl,by omega,hc2,HLT.out,HSTEP.out,HTW.out,HPUT.out⟩
     case measure=>simp [intOf];omega
    ·obtain rfl:i=4:=by omega
     obtain ⟨o0,o1,o2,o3,p0,p1,p2,p3⟩:=four HO.out
     have w1:IntKind.u64.wrap ((hi:Int)+(cy:Int))=(hi:Int)+(cy:Int):=by rw [IntKind.wrap_u64];omega
     have hOR:O<RN:=by have:=HOL.out;rw [eR] at this;exact this
     go_wp2_with fail
     refine (rfoldX_any (Num.of O) ((hi:Int)+(cy:Int)) (Num.of_ok O) ⟨by omega,by omega⟩ _).mono ?_
     rintro e w1' ⟨s,rfl,hs,⟨es,fs⟩,hb1⟩
     obtain ⟨z,hz,hv,rfl⟩:=Num.to_of hs
     have HS1:=HQ.out.ss.call hb1
     have HT:Hid (w1'.there (w.heap.size+1+1) 0 4):=HS1.there
     have HB:Hid (Below w.heap.size w w1'):=HS1.below
     have HE:Hid (z % pp=(a*b) % pp∧z=fX (tFold (a*b))):=by
      have key:=fold_mod N O (hi+cy) HNB.out HSUM.out
      rw [Num.of_val O hOR,←hv] at es
      have e2:(O:Int)+((hi:Int)+(cy:Int))*RR=((O+(hi+cy)*RN:Nat):Int):=by simp only [RR,RN];omega
      rw [e2,←mod_cast_pp,←mod_cast_pp] at es
      refine ⟨by rw [←HEQ.out,←key];omega,?_⟩
      have hN:=HNB.out
      have hs:=HSUM.out
      have e4:(BB:Nat) ^ 4=RN:=by decide
      rw [e4] at hN hs
      have h1:N/RN<RN:=by rw [Nat.div_lt_iff_lt_mul (by decide)];exact hN
      rw [Nat.mod_eq_of_lt h1] at hs
      rw [Num.of_val O hOR] at fs
      rw [←HEQ.out]
      refine fX_of hOR (x:=hi+cy) hs ?_
      rw [hv,fs,Int.natCast_add]
     clear HS1 hb1 es fs hv
     rw [nv_eq]
     unfold nv
     go_wp2_with (refine wpList_store_mid rfl 40 _ _ rfl (w.heap.size+1+1) 0 (nl z).toArray rfl rfl HT.out (r4 _) (four_one _) ?_)
     refine bodyPost_ret (v := .agg (nl z).toArray) (results_mid Tryz.results47 _ _ (w.heap.size+1+1) 0 (nl z) _ rfl (World.rangeAt_setCells_same _ _ _ _ HT.out) Tryz.underlying40 rfl (r4 _)) rfl ⟨z,hz,rfl,HE.out,below_setCells _ (by omega) _ _ _ HB.out⟩
theorem rtimes_nat (a b:Nat) (ha:a<RN) (hb:b<RN) (w:World) :
  Calls Tryz.prog 47 #[.agg (nl a).toArray,.agg (nl b).toArray] w fun e w' => ∃ s,s<RN∧e = .returned (.agg (nl s).toArray)∧s % pp=(a*b) % pp∧Below w.heap.size w w' :=
 (rtimesX_nat a b ha hb w).mono fun e w' ⟨s,h1,h2,h3,h4⟩=>⟨s,h1,h2,h3.1,h4⟩
end Go.Proofs.YtkhjnjlinfbfoaaGreatDoor
