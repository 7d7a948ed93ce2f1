/- Package field: load, store. -/
import Derived.Test.YtmaehekekkfpmaaDoorFieN
set_option linter.unusedSimpArgs false
set_option linter.unusedVariables false
namespace Go.Proofs.YtmaehekekkfpmaaDoor
open Go Go.RowKit Go.Lib
theorem word_at8 (b o cap n:Nat) (w:World) (hc : ∀ i,i<32→w.cell? ⟨b,i,none⟩=some (.int .u8 (by8 n i))) (h8:o % 8=0) (h32:o<32) :
  Calls Tryd.prog 79 #[.slice (some ⟨b,o,none⟩) 8 cap] w fun e w'=>e = .returned (.int .u64 (lw n (o/8))) ∧ ∃ m,w'=w.drewN m :=
 word_at b o cap n (o/8) w hc (by omega) (by omega)
theorem slice8 (w1:World) (g k:Nat) (lo hi:Int) (hl:lo=((8*k:Nat):Int)) (hh:hi=((8*k+8:Nat):Int)) (hk:k<4) :
  (Instr.sliceAt 26 (.pointer (some ⟨g,0,none⟩)) (some (.int .i64 lo)) (some (.int .i64 hi)) none).run Tryd.prog w1 = .ok (.slice (some ⟨g,8*k,none⟩) 8 (32 - 8*k)) w1:=by
 have:=sliceAt_lh w1 26 5 32 g 0 lo hi (8*k) (8*k+8) hl hh Tryd.underlying26 size_u8 (by omega) (by omega) (by omega)
 rw [show 8*k+8 - 8*k=8 by omega,Nat.zero_add] at this
 exact this
theorem heap_drewN {w:World} {b m:Nat} {o:Obj} (h:w.heap[b]? = some o):(w.drewN m).heap[b]? = some o:=by
 induction m with
 | zero=>exact h
 | succ n ih=>exact ih
theorem cell_set4 (w:World) (b:Nat) (y0 y1 y2 y3:Value) (a:Addr) (h:a.block≠b):(set4 w b y0 y1 y2 y3).cell? a=w.cell? a:=by
 simp only [World.cell?,set4_past w b a.block y0 y1 y2 y3 h]
set_option maxHeartbeats 1000000 in
theorem load_any (n:Nat) (w:World) :
  Calls Tryd.prog 63 #[bv n] w fun e w'=>e = .returned (nv n)∧Below w.heap.size w w':=by
 unfold bv nv
 have hsz:=br_size n
 have HC:Hid (∀ i,i<32→((w.alloc (.cells (br n) 26)).alloc (.cells #[.int .u64 0,.int .u64 0,.int .u64 0,.int .u64 0] 94)).cell? ⟨w.heap.size,i,none⟩=some (.int .u8 (by8 n i))):=fun i hi=>by
  rw [World.cell?_alloc_past _ _ _ (by simp),World.cell?_alloc_at _ _ _ _ rfl];exact br_get n i hi
 have sl0 : ∀ w1:World,(Instr.sliceAt 26 (.pointer (some ⟨w.heap.size,0,none⟩)) (some (.int .i64 0)) (some (.int .i64 8)) none).run Tryd.prog w1 = .ok (.slice (some ⟨w.heap.size,0,none⟩) 8 32) w1:=fun w1=>slice8 w1 w.heap.size 0 0 8 (by decide) (by decide) (by omega)
 have sl1 : ∀ w1:World,(Instr.sliceAt 26 (.pointer (some ⟨w.heap.size,0,none⟩)) (some (.int .i64 8)) (some (.int .i64 16)) none).run Tryd.prog w1 = .ok (.slice (some ⟨w.heap.size,8,none⟩) 8 24) w1:=fun w1=>slice8 w1 w.heap.size 1 8 16 (by decide) (by decide) (by omega)
 have sl2 : ∀ w1:World,(Instr.sliceAt 26 (.pointer (some ⟨w.heap.size,0,none⟩)) (some (.int .i64 16)) (some (.int .i64 24)) none).run Tryd.prog w1 = .ok (.slice (some ⟨w.heap.size,16,none⟩) 8 16) w1:=fun w1=>slice8 w1 w.heap.size 2 16 24 (by decide) (by decide) (by omega)
 have sl3 : ∀ w1:World,(Instr.sliceAt 26 (.pointer (some ⟨w.heap.size,0,none⟩)) (some (.int .i64 24)) (some (.int .i64 32)) none).run Tryd.prog w1 = .ok (.slice (some ⟨w.heap.size,24,none⟩) 8 8) w1:=fun w1=>slice8 w1 w.heap.size 3 24 32 (by decide) (by decide) (by omega)
 go_enter Tryd.func63,Tryd.ntmps63
 go_wp2
 obtain ⟨w0,hw0⟩ : ∃ x,x=(w.alloc (.cells (br n) 26)).alloc (.cells #[.int .u64 0,.int .u64 0,.int .u64 0,.int .u64 0] 94):=⟨_,rfl⟩
 have HB0:Hid (Below w.heap.size w w0):=by rw [hw0];exact ((Below.refl _ _).alloc (Nat.le_refl _) _).alloc (by simp) _
 have R0:w0.heap[w.heap.size+1]? = some (.cells #[.int .u64 0,.int .u64 0,.int .u64 0,.int .u64 0] 94):=by rw [hw0];exact heap_alloc_here _ _ _ (by simp)
 have C0 : ∀ i,i<32→w0.cell? ⟨w.heap.size,i,none⟩=some (.int .u8 (by8 n i)):=by rw [hw0];exact HC.out
 rw [←hw0]
 clear hw0 HC
 obtain ⟨r0,r1,r2,r3,f0,f1,f2,f3⟩:=four R0
 go_region_held3 (fun w' => ∀ i,i<32→w'.cell? ⟨w.heap.size,i,none⟩=some (.int .u8 (by8 n i))) (first | exact C0 | (intro i hi;rw [cell_drewN];revert i hi;assumption) | (intro i hi;refine (cell_set4 _ (w.heap.size+1) _ _ _ _ ⟨w.heap.size,i,none⟩ (by simp)).trans ?_;rw [cell_drewN];exact C0 i hi))
  ((go_at_call 79;refine (word_at8 _ _ _ n _ (by assumption) (by decide) (by decide)).mono ?_;rintro e w' ⟨rfl,m,rfl⟩))
 go_wp2
 refine bodyPost_ret (v := .agg #[.int .u64 (lw n 0),.int .u64 (lw n 1),.int .u64 (lw n 2),.int .u64 (lw n 3)]) (results_mid Tryd.results63 _ _ (w.heap.size+1) 0 [.int .u64 (lw n 0),.int .u64 (lw n 1),.int .u64 (lw n 2),.int .u64 (lw n 3)] _ rfl (range4 (t:=94) (set4_here _ _ _ _ (heap_drewN R0))) Tryd.underlying94 rfl (by kernel_rfl)) rfl ⟨rfl,below_set4 (below_drewN HB0.out _) (by omega) _ _ _ _⟩
end Go.Proofs.YtmaehekekkfpmaaDoor
/- Package field: putWord, store. -/
namespace Go.Proofs.YtmaehekekkfpmaaDoor
open Go Go.RowKit Go.Lib
theorem heap_setCells {w:World} {g:Nat} {cs cs':Array Value} {t:TypeId} (hg:w.heap[g]? = some (.cells cs t (0,0))) (o:Nat) (vs:List Value) (hn:o+vs.length≤cs.size)
  (h : ∀ i,cs'[i]? = if o≤i∧i<o+vs.length then vs[i - o]? else cs[i]?):(w.setCells g o vs).heap[g]? = some (.cells cs' t (0,0)):=by
 induction vs generalizing w cs o with
 | nil =>
  have:cs'=cs:=Array.ext_getElem? (fun i=>by
   have hne : ¬ (o≤i∧i<o+([]:List Value).length):=by simp
   rw [h i,if_neg hne])
  rw [this];exact hg
 | cons v r ih =>
  rw [World.setCells]
  refine ih (heap_setCell_same _ _ _ _ _ _ hg) (o+1) (by simp at hn ⊢;omega) (fun i => ?_)
  rw [h i,Array.getElem?_setIfInBounds]
  simp only [List.length_cons] at hn ⊢
  by_cases h1:i=o
  ·subst h1
   rw [if_pos (by omega),if_neg (by omega),if_pos rfl,if_pos (by omega),Nat.sub_self];rfl
  ·by_cases h2:o+1≤i∧i<o+1+r.length
   ·rw [if_pos (by omega),if_pos h2,show i - o=(i - (o+1))+1 by omega];rfl
   ·rw [if_neg (by omega),if_neg h2,if_neg (by omega)]
theorem below_setCells {B0:Nat} {a:World} (b:Nat) (hB:B0≤b) : ∀ (vs:List Value) (o:Nat) (w:World),Below B0 a w→Below B0 a (w.setCells b o vs)
 | [],_,_,h=>h
 | v :: r,o,w,h=>by
  rw [World.setCells]
  exact below_setCells b hB r (o+1) _ (h.setCell hB v)
theorem heap_setCells_past (b c:Nat) (hc:c≠b) : ∀ (vs:List Value) (o:Nat) (w:World),(w.setCells b o vs).heap[c]? = w.heap[c]?
 | [],_,_=>rfl
 | v :: r,o,w=>by
  rw [World.setCells,heap_setCells_past b c hc r (o+1) _]
  simp [World.setCell,Array.getElem?_modify,Ne.symm hc]
theorem there_of_row {w:World} {g:Nat} {cs:Array Value} {t:TypeId} (hg:w.heap[g]? = some (.cells cs t (0,0))) (o n:Nat) (hn:o+n≤cs.size):w.there g o n:=fun j hj =>
 ⟨by rw [cell_of_row w g (o+j) cs t _ hg,Array.getElem?_eq_getElem (by omega)];rfl,frozen_of_row _ _ _ _ _ hg⟩
theorem range_of_row {w:World} {g:Nat} {cs:Array Value} {t:TypeId} (hg:w.heap[g]? = some (.cells cs t (0,0))):w.rangeAt g 0 cs.toList:=fun j v hv=>by
 rw [Nat.zero_add,cell_of_row w g j cs t _ hg]
 simpa using hv
def b8 (x:Int):List Value:=[.int .u8 (x % 256),.int .u8 (x/256 % 256),.int .u8 (x/65536 % 256),.int .u8 (x/16777216 % 256),.int .u8 (x/4294967296 % 256),.int .u8 (x/1099511627776 % 256),.int .u8 (x/281474976710656 % 256),.int .u8 (x/72057594037927936 % 256)]
set_option maxHeartbeats 1000000 in
theorem putWord_any (b off cap:Nat) (x:Int) (w:World) (ht:w.there b off 8) :
  Calls Tryd.prog 76 #[.slice (some ⟨b,off,none⟩) 8 cap,.int .u64 x] w fun e w'=>e = .returned (.tuple #[])∧w.setCells b off (b8 x)=w':=by
 obtain ⟨v0,h0⟩:=Option.isSome_iff_exists.1 (ht 0 (by omega)).1
 have f0:=(ht 0 (by omega)).2
 obtain ⟨v1,h1⟩:=Option.isSome_iff_exists.1 (ht 1 (by omega)).1
 have f1:=(ht 1 (by omega)).2
 obtain ⟨v2,h2⟩:=Option.isSome_iff_exists.1 (ht 2 (by omega)).1
 have f2:=(ht 2 (by omega)).2
 obtain ⟨v3,h3⟩:=Option.isSome_iff_exists.1 (ht 3 (by omega)).1
 have f3:=(ht 3 (by omega)).2
 obtain ⟨v4,h4⟩:=Option.isSome_iff_exists.1 (ht 4 (by omega)).1
 have f4:=(ht 4 (by omega)).2
 obtain ⟨v5,h5⟩:=Option.isSome_iff_exists.1 (ht 5 (by omega)).1
 have f5:=(ht 5 (by omega)).2
 obtain ⟨v6,h6⟩:=Option.isSome_iff_exists.1 (ht 6 (by omega)).1
 have f6:=(ht 6 (by omega)).2
 obtain ⟨v7,h7⟩:=Option.isSome_iff_exists.1 (ht 7 (by omega)).1
 have f7:=(ht 7 (by omega)).2
 clear ht
 simp only [Nat.add_zero] at h0 f0
 go_enter Tryd.func76,Tryd.ntmps76
 go_wp2
 try simp only [IntKind.wrap_u8']
 go_end0
 exact ⟨rfl,rfl⟩
theorem b8_get (n k j:Nat) (h:j<8):(b8 (lw n k))[j]? = some (.int .u8 (by8 n (8*k+j))):=by
 have e:=by8_word n k j h
 simp only [by8,e,lw]
 generalize n/18446744073709551616 ^ k % 18446744073709551616=x
 match j,h with
 | 0,_=>simp [b8]
 | 1,_=>simp [b8]
 | 2,_=>simp [b8]
 | 3,_=>simp [b8]
 | 4,_=>simp [b8]
 | 5,_=>simp [b8]
 | 6,_=>simp [b8]
 | 7,_=>simp [b8]
theorem by8_low (n m i:Nat):by8 (n % 18446744073709551616 ^ m) i=if i<8*m then by8 n i else 0:=by
 have e:(18446744073709551616:Nat) ^ m=256 ^ (8*m):=by rw [Nat.pow_mul]
 rw [e,by8,by8]
 split
 ·rename_i h
  have e2:(256:Nat) ^ (8*m)=256 ^ i*(256*256 ^ (8*m - i - 1)):=by
   rw [←Nat.pow_succ',←Nat.pow_add];congr 1;omega
  rw [e2,Nat.mod_mul_right_div_self,Nat.mod_mul_right_mod]
 ·rename_i h
  have hlt:n % 256 ^ (8*m)<256 ^ i:=Nat.lt_of_lt_of_le (Nat.mod_lt _ (Nat.pow_pos (by decide))) (Nat.pow_le_pow_right (by decide) (by omega))
  rw [Nat.div_eq_of_lt hlt];rfl
theorem br_get' (n i:Nat):(br n)[i]? = if i<32 then some (.int .u8 (by8 n i)) else none:=by
 split
 ·rename_i h;exact br_get n i h
 ·rename_i h;rw [Array.getElem?_eq_none (by rw [br_size];omega)]
theorem put_row {w:World} {q n k:Nat} (hk:k<4) (h:w.heap[q]? = some (.cells (br (n % 18446744073709551616 ^ k)) 26 (0,0))) :
  (w.setCells q (8*k) (b8 (lw n k))).heap[q]? = some (.cells (br (n % 18446744073709551616 ^ (k+1))) 26 (0,0)):=by
 have hl:(b8 (lw n k)).length=8:=rfl
 refine heap_setCells h (8*k) _ (by rw [br_size,hl];omega) (fun i => ?_)
 rw [br_get',br_get',by8_low,by8_low,hl]
 by_cases h1:8*k≤i∧i<8*k+8
 ·rw [if_pos h1,if_pos (by omega),if_pos (by omega),b8_get n k _ (by omega),show 8*k+(i - 8*k)=i by omega]
 ·rw [if_neg h1]
  by_cases h2:i<32
  ·rw [if_pos h2,if_pos h2]
   by_cases h3:i<8*k
   ·rw [if_pos h3,if_pos (by omega)]
   ·rw [if_neg h3,if_neg (by omega)]
  ·rw [if_neg h2,if_neg h2]
theorem zero_32 (w:World):(zeroValue 26).run Tryd.prog w = .ok (.agg (br 0)) w:=by kernel_rfl
end Go.Proofs.YtmaehekekkfpmaaDoor
/- Package field: store, and the calls that the package gives: Add, Sub, Mul, Canonical. -/
namespace Go.Proofs.YtmaehekekkfpmaaDoor
open Go Go.RowKit Go.Lib
structure SR (w wr:World) (q m k:Nat):Prop where
 below:Below w.heap.size w wr
 hq:w.heap.size+2≤q
 num:wr.heap[w.heap.size]? = some (.cells #[.int .u64 (lw m 0),.int .u64 (lw m 1),.int .u64 (lw m 2),.int .u64 (lw m 3)] 94 (0,0))
 res:wr.heap[w.heap.size+1]? = some (.cells (br 0) 26 (0,0))
 byt:wr.heap[q]? = some (.cells (br (m % 18446744073709551616 ^ k)) 26 (0,0))
theorem SR.put {w wr:World} {q m k:Nat} (h:SR w wr q m k) (hk:k<4) (o:Nat) (ho:o=8*k) (x:Int) (hx:x=lw m k):SR w (wr.setCells q o (b8 x)) q m (k+1):=by
 subst ho;subst hx
 have:=h.hq
 exact ⟨below_setCells _ (by omega) _ _ _ h.below,h.hq,(heap_setCells_past _ _ (by omega) _ _ _).trans h.num,(heap_setCells_past _ _ (by omega) _ _ _).trans h.res,put_row hk h.byt⟩
theorem SR.drew {w wr:World} {q m k:Nat} (h:SR w wr q m k):SR w wr.drew q m k:=⟨h.below.drew,h.hq,h.num,h.res,h.byt⟩
theorem SR.there {w wr:World} {q m k:Nat} (h:SR w wr q m k) (hk:k<4) (o:Nat) (ho:o=8*k):wr.there q o 8:=there_of_row h.byt _ _ (by rw [br_size];omega)
set_option maxRecDepth 100000 in
set_option maxHeartbeats 1000000 in
theorem store_any (a:Nat) (ha:a<RN) (w:World) :
  Calls Tryd.prog 61 #[nv a] w fun e w'=>e = .returned (bv (a % pp))∧Below w.heap.size w w':=by
 unfold bv
 have hz:=zero_32
 have hb0s:=br_size 0
 obtain ⟨m,hm⟩ : ∃ m,m=a % pp:=⟨_,rfl⟩
 have hmlt:m<RN:=by rw [hm];exact Nat.lt_of_le_of_lt (Nat.mod_le _ _) ha
 rw [←hm]
 have hset:=settle_nat a ha
 rw [←hm] at hset
 clear hm
 unfold nv at *
 go_enter Tryd.func61,Tryd.ntmps61
 go_wp2_with fail
 refine (hset _).mono ?_
 rintro e w1 ⟨rfl,hb⟩
 have HB1:Hid (Below w.heap.size w w1):=chain (w:=(w.alloc (.cells #[.int .u64 (lw a 0),.int .u64 (lw a 1),.int .u64 (lw a 2),.int .u64 (lw a 3)] 94)).alloc (.cells (br 0) 26)) (((Below.refl _ _).alloc (Nat.le_refl _) _).alloc (by simp) _) hb
 have N1:w1.heap[w.heap.size]? = some (.cells #[.int .u64 (lw a 0),.int .u64 (lw a 1),.int .u64 (lw a 2),.int .u64 (lw a 3)] 94):=keep' hb ((heap_alloc_past _ _ _ (by simp)).trans (heap_alloc_here _ _ _ rfl))
 have R1:w1.heap[w.heap.size+1]? = some (.cells (br 0) 26):=keep' hb (heap_alloc_here _ _ _ (by simp))
 have z1:w.heap.size+2≤w1.heap.size:=by have:=hb.size;simpa using this
 clear hb
 obtain ⟨c0,c1,c2,c3,f0,f1,f2,f3⟩:=four N1
 have l1:w.heap.size<w1.heap.size:=by omega
 have HS0:Hid (SR w ((set4 w1 w.heap.size (.int .u64 (lw m 0)) (.int .u64 (lw m 1)) (.int .u64 (lw m 2)) (.int .u64 (lw m 3))).alloc (.cells (br 0) 26)) w1.heap.size m 0):=by
  refine ⟨(below_set4 HB1.out (Nat.le_refl _) _ _ _ _).alloc (by rw [set4_size];omega) _,z1,?_,?_,?_⟩
  ·exact (heap_alloc_past _ _ _ (by rw [set4_size];omega)).trans (set4_here _ _ _ _ N1)
  ·exact (heap_alloc_past _ _ _ (by rw [set4_size];omega)).trans ((set4_past _ _ _ _ _ _ _ (by omega)).trans R1)
  ·rw [Nat.pow_zero,Nat.mod_one];exact heap_alloc_here _ _ _ (by rw [set4_size])
 go_wp2_with fail
 rw [set4_eq]
 obtain ⟨x0,hx0⟩ : ∃ x,x=(set4 w1 w.heap.size (.int .u64 (lw m 0)) (.int .u64 (lw m 1)) (.int .u64 (lw m 2)) (.int .u64 (lw m 3))).alloc (.cells (br 0) 26):=⟨_,rfl⟩
 have S0:Hid (SR w x0 w1.heap.size m 0):=by rw [hx0];exact HS0.out
 rw [←hx0]
 clear hx0 HS0 c0 c1 c2 c3 f0 f1 f2 f3
 have c0:x0.drew.cell? ⟨w.heap.size,0,none⟩=some (.int .u64 (lw m 0)):=(four S0.out.num).1
 have T0:Hid (x0.drew.there w1.heap.size 0 8):=S0.out.drew.there (by omega) 0 (by decide)
 have P0:Hid (SR w (x0.drew.setCells w1.heap.size 0 (b8 (lw m 0))) w1.heap.size m 1):=S0.out.drew.put (by omega) 0 (by decide) _ rfl
 have sl0 : ∀ wz:World,(Instr.sliceAt 26 (.pointer (some ⟨w1.heap.size,0,none⟩)) (some (.int .i64 0)) (some (.int .i64 8)) none).run Tryd.prog wz = .ok (.slice (some ⟨w1.heap.size,0,none⟩) 8 32) wz:=fun wz=>slice8 wz w1.heap.size 0 0 8 (by decide) (by decide) (by omega)
 go_region_held3 (fun w'=>w'.cell? ⟨w.heap.size,0,none⟩=some (.int .u64 (lw m 0))) (first | with_reducible exact c0 | with_reducible exact (four P0.out.num).1)
  ((go_at_call 76;refine (putWord_any w1.heap.size 0 32 (lw m 0) _ T0.out).mono ?_;rintro e w' ⟨rfl,rfl⟩))
 obtain ⟨x1,hx1⟩ : ∃ x,x=x0.drew.setCells w1.heap.size 0 (b8 (lw m 0)):=⟨_,rfl⟩
 have S1:Hid (SR w x1 w1.heap.size m 1):=by rw [hx1];exact P0.out
 rw [←hx1]
 clear hx1 c0
 go_wp2_with fail
 have c1:x1.drew.cell? ⟨w.heap.size,1,none⟩=some (.int .u64 (lw m 1)):=(four S1.out.num).2.1
 have T1:Hid (x1.drew.there w1.heap.size 8 8):=S1.out.drew.there (by omega) 8 (by decide)
 have P1:Hid (SR w (x1.drew.setCells w1.heap.size 8 (b8 (lw m 1))) w1.heap.size m 2):=S1.out.drew.put (by omega) 8 (by decide) _ rfl
 have sl1 : ∀ wz:World,(Instr.sliceAt 26 (.pointer (some ⟨w1.heap.size,0,none⟩)) (some (.int .i64 8)) (some (.int .i64 16)) none).run Tryd.prog wz = .ok (.slice (some ⟨w1.heap.size,8,none⟩) 8 24) wz:=fun wz=>slice8 wz w1.heap.size 1 8 16 (by decide) (by decide) (by omega)
 go_region_held3 (fun w'=>w'.cell? ⟨w.heap.size,1,none⟩=some (.int .u64 (lw m 1))) (first | with_reducible exact c1 | with_reducible exact (four P1.out.num).2.1)
  ((go_at_call 76;refine (putWord_any w1.heap.size 8 24 (lw m 1) _ T1.out).mono ?_;rintro e w' ⟨rfl,rfl⟩))
 obtain ⟨x2,hx2⟩ : ∃ x,x=x1.drew.setCells w1.heap.size 8 (b8 (lw m 1)):=⟨_,rfl⟩
 have S2:Hid (SR w x2 w1.heap.size m 2):=by rw [hx2];exact P1.out
 rw [←hx2]
 clear hx2 c1
 go_wp2_with fail
 have c2:x2.drew.cell? ⟨w.heap.size,2,none⟩=some (.int .u64 (lw m 2)):=(four S2.out.num).2.2.1
 have T2:Hid (x2.drew.there w1.heap.size 16 8):=S2.out.drew.there (by omega) 16 (by decide)
 have P2:Hid (SR w (x2.drew.setCells w1.heap.size 16 (b8 (lw m 2))) w1.heap.size m 3):=S2.out.drew.put (by omega) 16 (by decide) _ rfl
 have sl2 : ∀ wz:World,(Instr.sliceAt 26 (.pointer (some ⟨w1.heap.size,0,none⟩)) (some (.int .i64 16)) (some (.int .i64 24)) none).run Tryd.prog wz = .ok (.slice (some ⟨w1.heap.size,16,none⟩) 8 16) wz:=fun wz=>slice8 wz w1.heap.size 2 16 24 (by decide) (by decide) (by omega)
 go_region_held3 (fun w'=>w'.cell? ⟨w.heap.size,2,none⟩=some (.int .u64 (lw m 2))) (first | with_reducible exact c2 | with_reducible exact (four P2.out.num).2.2.1)
  ((go_at_call 76;refine (putWord_any w1.heap.size 16 16 (lw m 2) _ T2.out).mono ?_;rintro e w' ⟨rfl,rfl⟩))
 obtain ⟨x3,hx3⟩ : ∃ x,x=x2.drew.setCells w1.heap.size 16 (b8 (lw m 2)):=⟨_,rfl⟩
 have S3:Hid (SR w x3 w1.heap.size m 3):=by rw [hx3];exact P2.out
 rw [←hx3]
 clear hx3 c2
 go_wp2_with fail
 have c3:x3.drew.cell? ⟨w.heap.size,3,none⟩=some (.int .u64 (lw m 3)):=(four S3.out.num).2.2.2.1
 have T3:Hid (x3.drew.there w1.heap.size 24 8):=S3.out.drew.there (by omega) 24 (by decide)
 have P3:Hid (SR w (x3.drew.setCells w1.heap.size 24 (b8 (lw m 3))) w1.heap.size m 4):=S3.out.drew.put (by omega) 24 (by decide) _ rfl
 have sl3 : ∀ wz:World,(Instr.sliceAt 26 (.pointer (some ⟨w1.heap.size,0,none⟩)) (some (.int .i64 24)) (some (.int .i64 32)) none).run Tryd.prog wz = .ok (.slice (some ⟨w1.heap.size,24,none⟩) 8 8) wz:=fun wz=>slice8 wz w1.heap.size 3 24 32 (by decide) (by decide) (by omega)
 go_region_held3 (fun w'=>w'.cell? ⟨w.heap.size,3,none⟩=some (.int .u64 (lw m 3))) (first | with_reducible exact c3 | with_reducible exact (four P3.out.num).2.2.2.1)
  ((go_at_call 76;refine (putWord_any w1.heap.size 24 8 (lw m 3) _ T3.out).mono ?_;rintro e w' ⟨rfl,rfl⟩))
 obtain ⟨x4,hx4⟩ : ∃ x,x=x3.drew.setCells w1.heap.size 24 (b8 (lw m 3)):=⟨_,rfl⟩
 have S4:Hid (SR w x4 w1.heap.size m 4):=by rw [hx4];exact P3.out
 rw [←hx4]
 clear hx4 c3
 have hmm:m % 18446744073709551616 ^ (3+1)=m:=Nat.mod_eq_of_lt (by simp only [RN] at hmlt;exact hmlt)
 have HC:Hid (x4.rangeAt w1.heap.size 0 (br m).toList):=by have:=S4.out.byt;rw [hmm] at this;exact range_of_row this
 have HT:Hid (x4.there (w.heap.size+1) 0 (br m).size):=by rw [br_size];exact there_of_row S4.out.res 0 32 (by rw [br_size];omega)
 have HQ:Hid (w.heap.size+2≤w1.heap.size):=S4.out.hq
 have HB:Hid (Below w.heap.size w x4):=S4.out.below
 go_wp2_with (first | (refine wpList_load_mid rfl 26 _ rfl w1.heap.size 0 rfl (br m).toList _ HC.out Tryd.underlying26 rfl (by rw [Array.length_toList,br_size];kernel_rfl) ?_) | (refine wpList_store_mid rfl 26 _ _ rfl (w.heap.size+1) 0 (br m) rfl rfl HT.out (by rw [br_size];kernel_rfl) (by exact br_one _) ?_))
 refine bodyPost_ret (v := .agg (br m)) ?_ rfl ⟨rfl,?_⟩
 ·exact results_mid Tryd.results61 _ _ (w.heap.size+1) 0 (br m).toList _ rfl (World.rangeAt_setCells_same _ _ _ _ HT.out) Tryd.underlying26 rfl (by rw [Array.length_toList,br_size];kernel_rfl)
 ·exact below_setCells _ (by omega) _ _ _ HB.out
end Go.Proofs.YtmaehekekkfpmaaDoor
