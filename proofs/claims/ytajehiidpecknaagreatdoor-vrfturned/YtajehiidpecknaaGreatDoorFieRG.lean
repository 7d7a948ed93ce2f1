import Derived.Test.YtajehiidpecknaaGreatDoorFieRA
set_option linter.all false
namespace Go.Proofs.YtajehiidpecknaaGreatDoor
open Go Go.RowKit Go.Lib
set_option maxRecDepth 100000
theorem zo (j:Nat):(18446744073709551616:Nat) ^ j=256 ^ (8*j):=by rw [Nat.pow_mul]
theorem mI (r:Nat):(2:Nat) ^ (8*r)=256 ^ r:=by rw [Nat.pow_mul]
theorem ny (n k i:Nat):by8 (n % 256 ^ k) i=if i<k then by8 n i else 0:=by
 unfold by8
 split
 ·rename_i h
  have e2:(256:Nat) ^ k=256 ^ i*(256*256 ^ (k - i - 1)):=by
   rw [←Nat.pow_succ',←Nat.pow_add];congr 1;omega
  rw [e2,Nat.mod_mul_right_div_self,Nat.mod_mul_right_mod]
 ·rename_i h
  have hlt:n % 256 ^ k<256 ^ i:=YI (Nat.mod_lt _ (Nat.pow_pos (by decide))) (Nat.pow_le_pow_right (by decide) (by omega))
  rw [Nat.div_eq_of_lt hlt];rfl
theorem He (m k:Nat):lw m (k/8)/2 ^ (8*(k % 8)) % 256=by8 m k:=by
 have e:=gO m (k/8) (k % 8) (Nat.mod_lt _ (by decide))
 rw [show 8*(k/8)+k % 8=k by omega] at e
 unfold by8 lw
 rw [e,←mI (k % 8),Int.natCast_emod,Int.natCast_ediv,Int.natCast_pow]
 rfl
theorem ET {w:World} {g m k:Nat} (hk:k<32) (h:w.heap[g]? = some (.cells (bl (m % 256 ^ k)).toArray 22 (0,0))) :
  (w.setCell ⟨g,k,none⟩ (.int .u8 (by8 m k))).heap[g]? = some (.cells (bl (m % 256 ^ (k+1))).toArray 22 (0,0)):=by
 have:=kj (k:=k) (.int .u8 (by8 m k)) h
 rw [this]
 congr 2
 apply Array.ext_getElem?
 intro i
 have e1:=mN (m % 256 ^ k) i
 have e2:=mN (m % 256 ^ (k+1)) i
 have hs:=aM (m % 256 ^ k)
 simp only [br] at e1 e2 hs
 rw [Array.getElem?_setIfInBounds,e1,e2,ny,ny,hs]
 by_cases h1:k=i
 ·subst h1
  rw [if_pos rfl,if_pos hk,if_pos hk,if_pos (by omega)]
 ·rw [if_neg h1]
  by_cases h2:i<32
  ·rw [if_pos h2,if_pos h2]
   by_cases h3:i<k
   ·rw [if_pos h3,if_pos (by omega)]
   ·rw [if_neg h3,if_neg (by omega)]
  ·rw [if_neg h2,if_neg h2]
structure RB (w wr:World) (g m k:Nat):Prop where
 ss:SS w [] (w.heap.size+1) 32 wr
 num:wr.heap[w.heap.size]? = some (.cells (nl m).toArray 68 (0,0))
 byt:wr.heap[g]? = some (.cells (bl (m % 256 ^ k)).toArray 22 (0,0))
 hg:w.heap.size+1<g
theorem RB.put {w wr:World} {g m k:Nat} (h:RB w wr g m k) (hk:k<32):RB w (wr.setCell ⟨g,k,none⟩ (.int .u8 (by8 m k))) g m (k+1):=by
 have hg:=h.hg
 exact ⟨h.ss.cell (by omega) (fun b hb=>by simp at hb) _,(a7 g w.heap.size (by omega) [_] k wr).trans h.num,ET hk h.byt,h.hg⟩
set_option maxRecDepth 100000 in
set_option maxHeartbeats 2000000 in
theorem wg (a:Nat) (ha:a<RN) (w:World) :
  Calls Tryz.prog 92 #[.agg (nl a).toArray] w fun e w'=>e = .returned (.agg (bl (a % pp)).toArray)∧Below w.heap.size w w':=by
 have hz:=bG
 simp only [br] at hz
 have hz0:(bl 0).toArray.size=32:=aM 0
 obtain ⟨m,hm⟩ : ∃ m,m=a % pp:=⟨_,rfl⟩
 have hml:m<RN:=by rw [hm];exact cY _
 have le:=dv a ha
 rw [←hm] at le ⊢
 clear hm
 have HS0:Hid (SS w [(w.heap.size,nl a,68)] (w.heap.size+1) 32 ((w.alloc (.cells (nl a).toArray 68)).alloc (.cells (bl 0).toArray 22))):=by
  refine ⟨((Below.refl _ _).alloc (Nat.le_refl _) _).alloc (by simp) _,?_,aw (aj _ _ _ (by simp)) 0 32 (by omega)⟩
  intro i g L t hm
  match i,hm with
  | 0,hm =>
   cases hm
   exact (az _ _ _ (by simp)).trans (aj _ _ _ rfl)
 go_enter Tryz.func92,Tryz.ntmps92
 go_wp2_with fail
 refine (le _).mono ?_
 rintro e w1 ⟨rfl,hb1⟩
 have S1:=HS0.out.call hb1
 have N1:=S1.holds 0 _ _ _ rfl
 have l1:w.heap.size<w1.heap.size:=lt_of_heap N1
 have l2:=S1.rlt
 obtain ⟨c0,c1,c2,c3,f0,f1,f2,f3⟩:=four N1
 have HRB:Hid (RB w ((kX w1 w.heap.size (.int .u64 (lw m 0)) (.int .u64 (lw m 1)) (.int .u64 (lw m 2)) (.int .u64 (lw m 3))).alloc (.cells (bl 0).toArray 22)) w1.heap.size m 0):=by
  refine ⟨(S1.nothing.put (Nat.le_refl _) (fun b hb=>by simp at hb) (nl m)).alloc _,?_,?_,l2⟩
  ·exact (az _ _ _ (by rw [eZ];exact l1)).trans (eV _ _ _ _ N1)
  ·rw [Nat.pow_zero,Nat.mod_one];exact aj _ _ _ (by rw [eZ])
 clear S1 N1 hb1
 go_wp2
 go_loopw [7] (fun i wr => ∃ k:Nat,k≤32∧i = .int .i64 k∧RB w wr w1.heap.size m k) (fun i _=>32 - (intOf i).toNat)
 case atStart=>exact ⟨0,by omega,rfl,HRB.out⟩
 case round =>
  obtain ⟨k,hk,rfl,hr⟩:=hrel
  have HR:Hid (RB w wr w1.heap.size m k):=hr
  clear hr c0 c1 c2 c3 f0 f1 f2 f3
  by_cases hlt:k<32
  ·have hlt':(k:Int)<32:=by omega
   have cc:wr.cell? ⟨w.heap.size,k/8,none⟩=some (.int .u64 (lw m (k/8))):=by
    rw [cell_of_row wr w.heap.size (k/8) _ _ _ HR.out.num];exact gY m (k/8) (by omega)
   have co:wr.cell? ⟨w1.heap.size,k,none⟩=some (.int .u8 (by8 (m % 256 ^ k) k)):=by
    rw [cell_of_row wr w1.heap.size k _ _ _ HR.out.byt];exact jL _ k hlt
   have fo:wr.frozen? ⟨w1.heap.size,k,none⟩=false:=frozen_of_row _ _ _ _ _ HR.out.byt
   have k8:k/8<4:=by omega
   have k8':(k:Int)/8<4:=by omega
   have hby:=He m k
   go_wp2
   go_roundw
   case rel=>exact ⟨k+1,by omega,by go_num,HR.out.put hlt⟩
   case measure=>simp [intOf];omega
  ·obtain rfl:k=32:=by omega
   have e32:m % 256 ^ 32=m:=YK hml
   have hb:=HR.out.byt
   rw [e32] at hb
   have HC:Hid (wr.rangeAt w1.heap.size 0 (bl m)):=bP (cs:=(bl m).toArray) hb
   have HT:Hid (wr.there (w.heap.size+1) 0 (br m).size):=by rw [aM];exact HR.out.ss.there
   have HB:Hid (Below w.heap.size w wr):=HR.out.ss.below
   clear hb e32
   go_wp2_with (first | (refine wpList_load_mid rfl 22 _ rfl w1.heap.size 0 rfl (bl m) _ HC.out Tryz.underlying22 rfl (i32 m) ?_) | (refine wpList_store_mid rfl 22 _ _ rfl (w.heap.size+1) 0 (br m) rfl rfl HT.out (by rw [aM];exact fK) (iN _) ?_))
   refine bodyPost_ret (v := .agg (bl m).toArray) (aN Tryz.results92 _ _ (w.heap.size+1) 0 (bl m) _ rfl (World.rangeAt_setCells_same _ _ _ _ HT.out) Tryz.underlying22 rfl (i32 _)) rfl ⟨rfl,af _ (by omega) _ _ _ HB.out⟩
theorem sE (a k j:Nat) (h:8*j+8≤k):lw (a % 256 ^ k) j=lw a j:=by
 have e:(256:Nat) ^ k=18446744073709551616 ^ j*(18446744073709551616*256 ^ (k - 8*j - 8)):=by
  rw [zo,show (18446744073709551616:Nat)=256 ^ 8 from by decide,←Nat.pow_add,←Nat.pow_add];congr 1;omega
 unfold lw
 rw [e,Nat.mod_mul_right_div_self,Nat.mod_mul_right_mod]
theorem yN (a k j:Nat) (h:k≤8*j):lw (a % 256 ^ k) j=0:=by
 have hlt:a % 256 ^ k<18446744073709551616 ^ j:=by
  rw [zo];exact YI (Nat.mod_lt _ (Nat.pow_pos (by decide))) (Nat.pow_le_pow_right (by decide) h)
 unfold lw
 rw [Nat.div_eq_of_lt hlt];rfl
theorem Ck (a q r:Nat) (hr:r≤8):lw (a % 256 ^ (8*q+r)) q=((a/18446744073709551616 ^ q % 256 ^ r:Nat):Int):=by
 have e:(256:Nat) ^ (8*q+r)=18446744073709551616 ^ q*256 ^ r:=by rw [Nat.pow_add,zo]
 unfold lw
 rw [e,Nat.mod_mul_right_div_self]
 congr 1
 exact YK (YI (Nat.mod_lt _ (Nat.pow_pos (by decide))) (show 256 ^ r≤18446744073709551616 from by
  have:=Nat.pow_le_pow_right (show 0<256 by decide) hr
  exact Nat.le_trans this (by decide)))
theorem GS (a k:Nat):bits .or .u64 (lw (a % 256 ^ k) (k/8)) (by8 a k*2 ^ (8*(k % 8)))=lw (a % 256 ^ (k+1)) (k/8)∧IntKind.u64.wrap (by8 a k*2 ^ (8*(k % 8)))=by8 a k*2 ^ (8*(k % 8)):=by
 obtain ⟨q,hq⟩ : ∃ q,q=k/8:=⟨_,rfl⟩
 obtain ⟨r,hr⟩ : ∃ r,r=k % 8:=⟨_,rfl⟩
 have hk:k=8*q+r:=by omega
 have hr8:r<8:=by omega
 rw [←hq,←hr,hk,Ck a q r (by omega),show 8*q+r+1=8*q+(r+1) by omega,Ck a q (r+1) (by omega)]
 have eb:by8 a (8*q+r)=((a/18446744073709551616 ^ q/256 ^ r % 256:Nat):Int):=by
  unfold by8
  rw [Nat.pow_add,←zo,YL]
 rw [eb]
 generalize a/18446744073709551616 ^ q=y
 have hb:y/256 ^ r % 256≤255:=by have:=Nat.mod_lt (y/256 ^ r) (show 256>0 by decide);omega
 have hp:(256:Nat) ^ r≤256 ^ 7:=Nat.pow_le_pow_right (by decide) (by omega)
 have hpos:0<(256:Nat) ^ r:=Nat.pow_pos (by decide)
 have hx:y % 256 ^ r<256 ^ r:=Nat.mod_lt _ hpos
 have hy:y/256 ^ r % 256*2 ^ (8*r)<18446744073709551616:=by
  rw [mI]
  have:=Nat.mul_le_mul hb hp
  exact Nat.lt_of_le_of_lt this (by decide)
 have hx2:y % 256 ^ r<18446744073709551616:=YI hx (Nat.le_trans hp (by decide))
 have h2:((2:Int) ^ (8*r))=((2 ^ (8*r):Nat):Int):=by rw [Int.natCast_pow];rfl
 refine ⟨?_,?_⟩
 ·have:=dH (y % 256 ^ r) (y/256 ^ r % 256) (8*r) (2 ^ (8*r)) h2 _ _ rfl rfl (by rw [mI];exact hx) hy hx2
  rw [this,h2,←Int.natCast_mul,←Int.natCast_add]
  congr 1
  rw [Nat.mod_pow_succ,mI,Nat.mul_comm]
 ·rw [h2,←Int.natCast_mul]
  exact M64.wrapN _ hy
theorem Cj {w:World} {g a k:Nat} (hk:k<32) (h:w.heap[g]? = some (.cells (nl (a % 256 ^ k)).toArray 68 (0,0))) :
  (w.setCell ⟨g,k/8,none⟩ (.int .u64 (lw (a % 256 ^ (k+1)) (k/8)))).heap[g]? = some (.cells (nl (a % 256 ^ (k+1))).toArray 68 (0,0)):=by
 rw [kj (k:=k/8) _ h]
 congr 2
 apply Array.ext_getElem?
 intro i
 rw [Array.getElem?_setIfInBounds]
 by_cases hi:i<4
 ·rw [gY _ i hi,gY _ i hi]
  by_cases h1:k/8=i
  ·rw [if_pos h1,if_pos (by simp;omega),h1]
  ·rw [if_neg h1]
   congr 2
   rcases Nat.lt_or_ge i (k/8) with h2 | h2
   ·rw [sE a k i (by omega),sE a (k+1) i (by omega)]
   ·rw [yN a k i (by omega),yN a (k+1) i (by omega)]
 ·rw [if_neg (by omega),Array.getElem?_eq_none (by simp;omega),Array.getElem?_eq_none (by simp;omega)]
structure RW (w wr:World) (a k:Nat):Prop where
 ss:SS w [(w.heap.size,bl a,22)] (w.heap.size+1) 4 wr
 num:wr.heap[w.heap.size+1+1]? = some (.cells (nl (a % 256 ^ k)).toArray 68 (0,0))
theorem RW.drew {w wr:World} {a k:Nat} (h:RW w wr a k):RW w wr.drew a k:=⟨h.ss.drew,h.num⟩
theorem RW.put {w wr:World} {a k:Nat} (h:RW w wr a k) (hk:k<32):RW w (wr.setCell ⟨w.heap.size+1+1,k/8,none⟩ (.int .u64 (lw (a % 256 ^ (k+1)) (k/8)))) a (k+1) :=
 ⟨h.ss.cell (by omega) (ne1 (by omega)) _,Cj hk h.num⟩
theorem Ap {w:World} {g n i:Nat} {t:TypeId} (h:w.heap[g]? = some (.cells (bl n).toArray t (0,0))) (hi:i<32):w.cell? ⟨g,i,none⟩=some (.int .u8 (by8 n i)):=by
 rw [cell_of_row w g i _ t _ h]
 exact jL n i hi
set_option maxRecDepth 100000 in
set_option maxHeartbeats 2000000 in
theorem qM (a:Nat) (ha:a<RN) (w:World) :
  Calls Tryz.prog 83 #[.agg (bl a).toArray] w fun e w'=>e = .returned (.agg (nl a).toArray)∧Below w.heap.size w w':=by
 have hza:(bl a).toArray.size=32:=aM a
 have HRW:Hid (RW w (((w.alloc (.cells (bl a).toArray 22)).alloc (.cells #[.int .u64 0,.int .u64 0,.int .u64 0,.int .u64 0] 68)).alloc (.cells #[.int .u64 0,.int .u64 0,.int .u64 0,.int .u64 0] 68)) a 0):=by
  refine ⟨⟨(((Below.refl _ _).alloc (Nat.le_refl _) _).alloc (by simp) _).alloc (by simp;omega) _,?_,aw ((az _ _ _ (by simp)).trans (aj _ _ _ (by simp))) 0 4 (by simp)⟩,?_⟩
  ·intro i g L t hm
   match i,hm with
   | 0,hm =>
    cases hm
    exact (az _ _ _ (by simp only [World.size_alloc];omega)).trans ((az _ _ _ (by simp only [World.size_alloc];omega)).trans (aj _ _ _ rfl))
  ·rw [Nat.pow_zero,Nat.mod_one];exact aj _ _ _ (by simp)
 go_enter Tryz.func83,Tryz.ntmps83
 go_wp2
 go_loopw [5] (fun i wr => ∃ k:Nat,k≤32∧i = .int .i64 k∧RW w wr a k) (fun i _=>32 - (intOf i).toNat)
 case atStart=>exact ⟨0,by omega,rfl,HRW.out⟩
 case round =>
  obtain ⟨k,hk,rfl,hr⟩:=hrel
  have HR:Hid (RW w wr a k):=hr
  clear hr
  by_cases hlt:k<32
  ·have hlt':(k:Int)<32:=by omega
   have k8:k/8<4:=by omega
   have k8':(k:Int)/8<4:=by omega
   have cn:wr.drew.cell? ⟨w.heap.size+1+1,k/8,none⟩=some (.int .u64 (lw (a % 256 ^ k) (k/8))):=by
    rw [cell_of_row wr.drew (w.heap.size+1+1) (k/8) _ _ _ HR.out.num];exact gY _ (k/8) (by omega)
   have fn:wr.drew.frozen? ⟨w.heap.size+1+1,k/8,none⟩=false:=frozen_of_row _ _ _ _ _ HR.out.drew.num
   obtain ⟨ho,hw⟩:=GS a k
   have n1:IntKind.i64.wrap ((k:Int)/8)=(k:Int)/8:=by rw [IntKind.wrap_i64];omega
   have n2:((k:Int)/8).toNat=k/8:=by omega
   have n3:(0:Int)≤(k:Int)/8:=by omega
   have n4:IntKind.i64.wrap ((k:Int) % 8)=(k:Int) % 8:=by rw [IntKind.wrap_i64];omega
   have n5:IntKind.i64.wrap (8*((k:Int) % 8))=8*((k:Int) % 8):=by rw [IntKind.wrap_i64];omega
   have n6:IntKind.u64.wrap (8*((k:Int) % 8))=8*((k:Int) % 8):=by rw [IntKind.wrap_u64];omega
   have n7:(8*((k:Int) % 8)).toNat=8*(k % 8):=by omega
   have n8:(0:Int)≤8*((k:Int) % 8):=by omega
   have n9:8*((k:Int) % 8)<64:=by omega
   have nm:min (8*(k % 8)) 64=8*(k % 8):=by omega
   have hwb:IntKind.u64.wrap (by8 a k)=by8 a k:=by have:=Ao a k;rw [IntKind.wrap_u64];omega
   go_wp2_with fail
   refine wp_region_held_drew (S:=(fun w'=>SS w [(w.heap.size,bl a,22)] (w.heap.size+1) 4 w')) (by kernel_rfl) ?_ (fun hHeld => ?_)
   ·exact HR.out.ss.drew
   refine aL (i:=0) (v := ?_) 8 rfl rfl (by kernel_rfl) (by kernel_rfl) (by kernel_rfl) (fun _ _ _ h=>h) (Or.inl ⟨by rfl,?_⟩) hHeld ?_
   rotate_left 1
   ·intro w hSw;go_simp <;> with_reducible rfl
   simp only [Act.put,qA,qC,qB]
   refine aL (i:=1) (v := ?_) 9 rfl rfl (by kernel_rfl) (by kernel_rfl) (by kernel_rfl) (fun _ _ _ h=>h) (Or.inl ⟨by rfl,?_⟩) hHeld ?_
   rotate_left 1
   ·intro w hSw;go_simp <;> with_reducible rfl
   simp only [Act.put,qA,qC,qB]
   refine aL (i:=2) (v := ?_) 10 rfl rfl (by kernel_rfl) (by kernel_rfl) (by kernel_rfl) (fun _ _ _ h=>h) (Or.inl ⟨by rfl,?_⟩) hHeld ?_
   rotate_left 1
   ·intro w hSw;go_simp <;> with_reducible rfl
   simp only [Act.put,qA,qC,qB]
   refine aL (i:=3) (v := ?_) 11 rfl rfl (by kernel_rfl) (by kernel_rfl) (by kernel_rfl) (fun _ _ _ h=>h) (Or.inl ⟨by rfl,?_⟩) hHeld ?_
   rotate_left 1
   ·intro w hSw;go_simp <;> with_reducible rfl
   simp only [Act.put,qA,qC,qB]
   refine aL (i:=4) (v := ?_) 12 rfl rfl (by kernel_rfl) (by kernel_rfl) (by kernel_rfl) (fun _ _ _ h=>h) (Or.inl ⟨by rfl,?_⟩) hHeld ?_
   rotate_left 1
   ·intro w hSw;go_simp <;> with_reducible rfl
   simp only [Act.put,qA,qC,qB]
   refine aL (i:=6) (v := ?_) 14 rfl rfl (by kernel_rfl) (by kernel_rfl) (by kernel_rfl) (fun _ _ _ h=>h) (Or.inl ⟨by rfl,?_⟩) hHeld ?_
   rotate_left 1
   ·intro w hSw;go_simp <;> with_reducible rfl
   simp only [Act.put,qA,qC,qB]
   refine aL (i:=7) (v := ?_) 15 rfl rfl (by kernel_rfl) (by kernel_rfl) (by kernel_rfl) (fun _ _ _ h=>h) (Or.inl ⟨by rfl,?_⟩) hHeld ?_
   rotate_left 1
   ·intro w hSw;go_simp <;> with_reducible rfl
   simp only [Act.put,qA,qC,qB]
   refine aL (i:=8) (v := ?_) 16 rfl rfl (by kernel_rfl) (by kernel_rfl) (by kernel_rfl) (fun _ _ _ h=>h) (Or.inl ⟨by rfl,?_⟩) hHeld ?_
   rotate_left 1
   ·intro w hSw;have cb:=Ap (hSw.holds 0 _ _ _ rfl) hlt;go_simp <;> with_reducible rfl
   simp only [Act.put,qA,qC,qB]
   refine aL (i:=9) (v := ?_) 17 rfl rfl (by kernel_rfl) (by kernel_rfl) (by kernel_rfl) (fun _ _ _ h=>h) (Or.inl ⟨by rfl,?_⟩) hHeld ?_
   rotate_left 1
   ·intro w hSw;go_simp <;> with_reducible rfl
   simp only [Act.put,qA,qC,qB]
   refine aL (i:=10) (v := ?_) 18 rfl rfl (by kernel_rfl) (by kernel_rfl) (by kernel_rfl) (fun _ _ _ h=>h) (Or.inl ⟨by rfl,?_⟩) hHeld ?_
   rotate_left 1
   ·intro w hSw;go_simp <;> with_reducible rfl
   simp only [Act.put,qA,qC,qB]
   refine aL (i:=11) (v := ?_) 19 rfl rfl (by kernel_rfl) (by kernel_rfl) (by kernel_rfl) (fun _ _ _ h=>h) (Or.inl ⟨by rfl,?_⟩) hHeld ?_
   rotate_left 1
   ·intro w hSw;go_simp <;> with_reducible rfl
   simp only [Act.put,qA,qC,qB]
   refine aL (i:=12) (v := ?_) 20 rfl rfl (by kernel_rfl) (by kernel_rfl) (by kernel_rfl) (fun _ _ _ h=>h) (Or.inl ⟨by rfl,?_⟩) hHeld ?_
   rotate_left 1
   ·intro w hSw;go_simp <;> with_reducible rfl
   simp only [Act.put,qA,qC,qB]
   refine aL (i:=13) (v := ?_) 21 rfl rfl (by kernel_rfl) (by kernel_rfl) (by kernel_rfl) (fun _ _ _ h=>h) (Or.inl ⟨by rfl,?_⟩) hHeld ?_
   rotate_left 1
   ·intro w hSw;go_simp <;> with_reducible rfl
   simp only [Act.put,qA,qC,qB]
   refine aL (i:=14) (v := ?_) 22 rfl rfl (by kernel_rfl) (by kernel_rfl) (by kernel_rfl) (fun _ _ _ h=>h) (Or.inl ⟨by rfl,?_⟩) hHeld ?_
   rotate_left 1
   ·intro w hSw;go_simp <;> with_reducible rfl
   simp only [Act.put,qA,qC,qB]
   refine wpAnyH_ready (rs:=[5]) (by kernel_rfl) (by simp) ?_
   refine AllReadyH.cons rfl (fun K hK => ?_) AllReadyH.nil
   go_simp
   refine hK.out _ _ ?_ (fun hHeld => ?_)
   ·exact hHeld
   clear hK K
   try simp only [Act.put,qA,qC,qB]
   refine aL (i:=15) (v := ?_) 23 rfl rfl (by kernel_rfl) (by kernel_rfl) (by kernel_rfl) (fun _ _ _ h=>h) (Or.inl ⟨by rfl,?_⟩) hHeld ?_
   rotate_left 1
   ·intro w hSw;go_simp <;> with_reducible rfl
   simp only [Act.put,qA,qC,qB]
   refine aL (i:=16) (v := ?_) 24 rfl rfl (by kernel_rfl) (by kernel_rfl) (by kernel_rfl) (fun _ _ _ h=>h) (Or.inl ⟨by rfl,?_⟩) hHeld ?_
   rotate_left 1
   ·intro w hSw;go_simp <;> with_reducible rfl
   simp only [Act.put,qA,qC,qB]
   refine wpAnyH_ready (rs:=[17]) (by kernel_rfl) (by simp) ?_
   refine AllReadyH.cons rfl (fun K hK => ?_) AllReadyH.nil
   go_simp
   refine hK.out _ _ ?_ (fun hHeld => ?_)
   ·exact hHeld.cell (by omega) (ne1 (by omega)) _
   clear hK K
   try simp only [Act.put,qA,qC,qB]
   refine wpAnyH_done (by kernel_rfl) ?_ _
   have HR2:Hid (RW w (wr.drew.setCell ⟨w.heap.size+1+1,k/8,none⟩ (.int .u64 (lw (a % 256 ^ (k+1)) (k/8)))) a (k+1)):=HR.out.drew.put hlt
   clear hHeld
   go_wp2
   go_roundw
   case rel =>
    rw [nm,hw,ho]
    exact ⟨k+1,by omega,by go_num,HR2.out⟩
   case measure=>simp [intOf];omega
  ·obtain rfl:k=32:=by omega
   have e32:a % 256 ^ 32=a:=YK ha
   have hb:=HR.out.num
   rw [e32] at hb
   have HC:Hid (wr.rangeAt (w.heap.size+1+1) 0 (nl a)):=bP (cs:=(nl a).toArray) hb
   have HT:Hid (wr.there (w.heap.size+1) 0 4):=HR.out.ss.there
   have HB:Hid (Below w.heap.size w wr):=HR.out.ss.below
   clear hb e32
   go_wp2_with (first | (refine wpList_load_mid rfl 68 _ rfl (w.heap.size+1+1) 0 rfl (nl a) _ HC.out Tryz.underlying68 rfl (r4 a) ?_) | (refine wpList_store_mid rfl 68 _ _ rfl (w.heap.size+1) 0 (nl a).toArray rfl rfl HT.out (r4 a) (bu a) ?_))
   refine bodyPost_ret (v := .agg (nl a).toArray) (aN Tryz.results83 _ _ (w.heap.size+1) 0 (nl a) _ rfl (World.rangeAt_setCells_same _ _ _ _ HT.out) Tryz.underlying68 rfl (r4 a)) rfl ⟨rfl,af _ (by omega) _ _ _ HB.out⟩
end Go.Proofs.YtajehiidpecknaaGreatDoor
namespace Go.Proofs.YtajehiidpecknaaGreatDoor
open Go Go.RowKit Go.Lib
set_option maxRecDepth 100000
abbrev BB:Nat:=18446744073709551616
def wd (N k:Nat):Nat:=N/BB ^ k % BB
def upw (N k v:Nat):Nat:=N/BB ^ (k+1)*BB ^ (k+1)+v*BB ^ k+N % BB ^ k
theorem mb (N k:Nat):lw N k=((wd N k:Nat):Int):=rfl
theorem qx (N k:Nat):wd N k<BB:=Nat.mod_lt _ (by decide)
theorem sw (k:Nat):0<BB ^ k:=Nat.pow_pos (by decide)
theorem rP (N k v:Nat):upw N k v+wd N k*BB ^ k=N+v*BB ^ k:=by
 have h1:=Nat.div_add_mod N (BB ^ k)
 have h2:=Nat.div_add_mod (N/BB ^ k) BB
 have e:N/BB ^ (k+1)*BB ^ (k+1)+N/BB ^ k % BB*BB ^ k=N/BB ^ k*BB ^ k:=by
  rw [Nat.pow_succ,←YL,Nat.mul_comm (BB ^ k) BB,←Nat.mul_assoc,←Nat.add_mul,Nat.mul_comm (N/BB ^ k/BB) BB,h2]
 unfold upw wd
 rw [Nat.mul_comm] at h1
 omega
theorem ES (N k v m:Nat) (hN:N<BB ^ m) (hk:k<m) (hv:v<BB):upw N k v<BB ^ m:=by
 obtain ⟨d,rfl⟩ : ∃ d,m=k+1+d:=⟨m - (k+1),by omega⟩
 have h1:N/BB ^ (k+1)<BB ^ d:=by
  rw [Nat.div_lt_iff_lt_mul (sw _),←Nat.pow_add,Nat.add_comm d];exact hN
 have h2:N/BB ^ (k+1)*BB ^ (k+1)≤(BB ^ d - 1)*BB ^ (k+1):=Nat.mul_le_mul_right _ (by omega)
 have h3:v*BB ^ k+N % BB ^ k<BB ^ (k+1):=by
  have:=Nat.mod_lt N (sw k)
  have h4:v*BB ^ k≤(BB - 1)*BB ^ k:=Nat.mul_le_mul_right _ (by omega)
  rw [Nat.sub_mul,Nat.one_mul] at h4
  rw [Nat.pow_succ,Nat.mul_comm (BB ^ k) BB]
  have h5:BB ^ k≤BB*BB ^ k:=Nat.le_mul_of_pos_left _ (by decide)
  omega
 have h6:(BB ^ d - 1)*BB ^ (k+1)+BB ^ (k+1)=BB ^ (k+1+d):=by
  rw [Nat.sub_mul,Nat.one_mul,Nat.pow_add BB (k+1) d,Nat.mul_comm (BB ^ (k+1)) (BB ^ d)]
  have:=Nat.le_mul_of_pos_left (BB ^ (k+1)) (sw d)
  omega
 unfold upw
 omega
theorem Dv (N k v j:Nat) (hv:v<BB):wd (upw N k v) j=if j=k then v else wd N j:=by
 have hm:=Nat.mod_lt N (sw k)
 have h3:v*BB ^ k+N % BB ^ k<BB ^ (k+1):=by
  have h4:v*BB ^ k≤(BB - 1)*BB ^ k:=Nat.mul_le_mul_right _ (by omega)
  rw [Nat.sub_mul,Nat.one_mul] at h4
  rw [Nat.pow_succ,Nat.mul_comm (BB ^ k) BB]
  have h5:BB ^ k≤BB*BB ^ k:=Nat.le_mul_of_pos_left _ (by decide)
  omega
 unfold wd upw
 split
 ·rename_i h
  subst h
  rw [show N/BB ^ (j+1)*BB ^ (j+1)+v*BB ^ j+N % BB ^ j=N % BB ^ j+BB ^ j*(v+BB*(N/BB ^ (j+1))) by
   rw [Nat.mul_add,Nat.pow_succ,Nat.mul_comm v,Nat.mul_comm (N/_)]
   simp only [Nat.mul_assoc];omega,Nat.add_mul_div_left _ _ (sw j),Nat.div_eq_of_lt hm,Nat.zero_add,Nat.add_mul_mod_self_left]
  exact YK hv
 ·rename_i h
  rcases Nat.lt_or_gt_of_ne h with h1 | h1
  ·-- j < k
   have e:BB ^ k=BB ^ j*(BB*BB ^ (k - j - 1)):=by rw [←Nat.pow_succ',←Nat.pow_add];congr 1;omega
   have e2:BB ^ (k+1)=BB ^ k*BB:=Nat.pow_succ _ _
   have hN : ∀ x,x/BB ^ j % BB=x % BB ^ k/BB ^ j % BB:=fun x=>by
    rw [e,Nat.mod_mul_right_div_self,Nat.mod_mul_right_mod]
   rw [hN (N/BB ^ (k+1)*BB ^ (k+1)+v*BB ^ k+N % BB ^ k),hN N]
   rw [show N/BB ^ (k+1)*BB ^ (k+1)+v*BB ^ k+N % BB ^ k=N % BB ^ k+BB ^ k*(v+BB*(N/BB ^ (k+1))) by
    rw [Nat.mul_add,e2,Nat.mul_comm v,Nat.mul_comm (N/_)]
    simp only [Nat.mul_assoc];omega,Nat.add_mul_mod_self_left,Nat.mod_mod]
  ·-- k < j
   have hd : ∀ x,x/BB ^ j=x/BB ^ (k+1)/BB ^ (j - k - 1):=fun x=>by
    rw [YL,←Nat.pow_add];congr 2;omega
   rw [hd,hd N,show N/BB ^ (k+1)*BB ^ (k+1)+v*BB ^ k+N % BB ^ k=(v*BB ^ k+N % BB ^ k)+BB ^ (k+1)*(N/BB ^ (k+1)) by rw [Nat.mul_comm (BB ^ (k+1))];omega,Nat.add_mul_div_left _ _ (sw _),Nat.div_eq_of_lt h3,Nat.zero_add]
theorem oD (b j:Nat):b % BB ^ (j+1)=b % BB ^ j+BB ^ j*wd b j:=by
 rw [Nat.mod_pow_succ];rfl
def l8 (N:Nat):List Value:=(List.range 8).map fun k=>Value.int .u64 (lw N k)
theorem xt (N k:Nat) (h:k<8):(l8 N).toArray[k]? = some (.int .u64 (lw N k)):=by simp [l8,h]
theorem sM (N:Nat):(l8 N).toArray.size=8:=by simp [l8]
theorem J1 {w:World} {g N k v:Nat} {t:TypeId} (hv:v<BB) (hk:k<8) (h:w.heap[g]? = some (.cells (l8 N).toArray t (0,0))) :
  (w.setCell ⟨g,k,none⟩ (.int .u64 (v:Int))).heap[g]? = some (.cells (l8 (upw N k v)).toArray t (0,0)):=by
 rw [kj (k:=k) _ h]
 congr 2
 apply Array.ext_getElem?
 intro i
 rw [Array.getElem?_setIfInBounds,sM]
 by_cases hi:i<8
 ·rw [xt _ i hi,xt _ i hi,mb (upw N k v),Dv N k v i hv]
  by_cases h1:k=i
  ·subst h1;rw [if_pos rfl,if_pos rfl,if_pos hk]
  ·rw [if_neg h1,if_neg (Ne.symm h1)];rfl
 ·rw [if_neg (by omega),Array.getElem?_eq_none (by rw [sM];omega),Array.getElem?_eq_none (by rw [sM];omega)]
theorem KD {w:World} {g N k v:Nat} {t:TypeId} (hv:v<BB) (hk:k<4) (h:w.heap[g]? = some (.cells (nl N).toArray t (0,0))) :
  (w.setCell ⟨g,k,none⟩ (.int .u64 (v:Int))).heap[g]? = some (.cells (nl (upw N k v)).toArray t (0,0)):=by
 rw [kj (k:=k) _ h]
 congr 2
 apply Array.ext_getElem?
 intro i
 rw [Array.getElem?_setIfInBounds]
 by_cases hi:i<4
 ·rw [gY _ i hi,gY _ i hi,mb (upw N k v),Dv N k v i hv]
  by_cases h1:k=i
  ·subst h1;rw [if_pos rfl,if_pos rfl,if_pos (by simp;omega)]
  ·rw [if_neg h1,if_neg (Ne.symm h1)];rfl
 ·rw [if_neg (by omega),Array.getElem?_eq_none (by simp;omega),Array.getElem?_eq_none (by simp;omega)]
theorem mix (B h l c1 c2 l1 l2 x c ab:Nat) (e0:ab=h*B+l) (e1:l1+c1*B=l+x) (e2:l2+c2*B=l1+c):l2+(h+c1+c2)*B=ab+x+c:=by
 rw [Nat.add_mul,Nat.add_mul];omega
theorem OJ (B h l c1 c2 lo1 v x hi cy hk:Nat) (e0:hk=h*B+l) (e1:lo1+c1*B=l+hi) (e2:v+c2*B=x+lo1+cy):v+(h+c1+c2)*B=x+hk+hi+cy:=by
 rw [Nat.add_mul,Nat.add_mul];omega
theorem ya (N c k i j a b h l l1 c1 l2 c2:Nat) (hk:k=i+j) (e0:wd a i*wd b j=h*BB+l) (e1:l1+c1*BB=l+wd N k) (e2:l2+c2*BB=l1+c) (S:Nat)
  (hi:N+c*BB ^ k=S+wd a i*(b % BB ^ j)*BB ^ i):upw N k l2+(h+c1+c2)*BB ^ (k+1)=S+wd a i*(b % BB ^ (j+1))*BB ^ i:=by
 have u:=rP N k l2
 have e3:l2+(h+c1+c2)*BB=wd a i*wd b j+wd N k+c:=mix BB h l c1 c2 l1 l2 (wd N k) c _ e0 e1 e2
 have e6:(h+c1+c2)*BB*BB ^ k=h*BB*BB ^ k+c1*BB*BB ^ k+c2*BB*BB ^ k:=by rw [Nat.add_mul,Nat.add_mul,Nat.add_mul,Nat.add_mul]
 have e4:l2*BB ^ k+(h+c1+c2)*BB*BB ^ k=(wd a i*wd b j+wd N k+c)*BB ^ k:=by rw [←Nat.add_mul,e3]
 have e5:wd a i*(b % BB ^ (j+1))*BB ^ i=wd a i*(b % BB ^ j)*BB ^ i+wd a i*wd b j*BB ^ k:=by
  rw [oD,Nat.mul_add,Nat.add_mul,hk,Nat.pow_add,Nat.mul_comm (BB ^ j) (wd b j),←Nat.mul_assoc (wd a i),Nat.mul_assoc (wd a i*wd b j),Nat.mul_comm (BB ^ j)]
 have e7:(wd a i*wd b j+wd N k+c)*BB ^ k=wd a i*wd b j*BB ^ k+wd N k*BB ^ k+c*BB ^ k:=by rw [Nat.add_mul,Nat.add_mul]
 rw [e5,Nat.pow_succ,Nat.mul_comm (BB ^ k) BB,←Nat.mul_assoc]
 rw [e7] at e4
 clear e0 e1 e2 e3 e6
 generalize (h+c1+c2)*BB*BB ^ k=A1 at *
 generalize l2*BB ^ k=A2 at *
 generalize wd N k*BB ^ k=A3 at *
 generalize wd a i*wd b j*BB ^ k=A4 at *
 generalize wd a i*(b % BB ^ j)*BB ^ i=A5 at *
 generalize c*BB ^ k=A6 at *
 generalize upw N k l2=A7 at *
 omega
theorem xo (O H k h l hi lo1 c1 v c2 cy:Nat) (L:Nat) (e0:wd H k*38=h*BB+l) (e1:lo1+c1*BB=l+hi) (e2:v+c2*BB=wd O k+lo1+cy)
  (hi0:O+(hi+cy)*BB ^ k=L+38*(H % BB ^ k)):upw O k v+(h+c1+c2)*BB ^ (k+1)=L+38*(H % BB ^ (k+1)):=by
 have u:=rP O k v
 have e3:v+(h+c1+c2)*BB=wd O k+wd H k*38+hi+cy:=OJ BB h l c1 c2 lo1 v (wd O k) hi cy _ e0 e1 e2
 have e6:(h+c1+c2)*BB*BB ^ k=h*BB*BB ^ k+c1*BB*BB ^ k+c2*BB*BB ^ k:=by rw [Nat.add_mul,Nat.add_mul,Nat.add_mul,Nat.add_mul]
 have e4:v*BB ^ k+(h+c1+c2)*BB*BB ^ k=(wd O k+wd H k*38+hi+cy)*BB ^ k:=by rw [←Nat.add_mul,e3]
 have e5:38*(H % BB ^ (k+1))=38*(H % BB ^ k)+wd H k*38*BB ^ k:=by
  rw [oD,Nat.mul_add,Nat.mul_comm (BB ^ k) (wd H k),←Nat.mul_assoc,Nat.mul_comm 38 (wd H k)]
 have e7:(wd O k+wd H k*38+hi+cy)*BB ^ k=wd O k*BB ^ k+wd H k*38*BB ^ k+hi*BB ^ k+cy*BB ^ k:=by rw [Nat.add_mul,Nat.add_mul,Nat.add_mul]
 have e8:(hi+cy)*BB ^ k=hi*BB ^ k+cy*BB ^ k:=by rw [Nat.add_mul]
 rw [e5,Nat.pow_succ,Nat.mul_comm (BB ^ k) BB,←Nat.mul_assoc]
 rw [e7] at e4
 rw [e8] at hi0
 clear e0 e1 e2 e3 e6
 generalize (h+c1+c2)*BB*BB ^ k=A1 at *
 generalize v*BB ^ k=A2 at *
 generalize wd O k*BB ^ k=A3 at *
 generalize wd H k*38*BB ^ k=A4 at *
 generalize H % BB ^ k=A5 at *
 generalize hi*BB ^ k=A6 at *
 generalize cy*BB ^ k=A8 at *
 generalize upw O k v=A7 at *
 omega
end Go.Proofs.YtajehiidpecknaaGreatDoor
