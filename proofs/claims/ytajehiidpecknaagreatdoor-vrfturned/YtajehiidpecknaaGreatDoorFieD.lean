import Derived.Test.YtajehiidpecknaaGreatDoorFieA
import Derived.Test.YtajehiidpecknaaGreatDoorFeG
set_option linter.all false
namespace Go.Proofs.YtajehiidpecknaaGreatDoor
open Go Go.RowKit Go.Lib
def lw (n k:Nat):Int:=((n/18446744073709551616 ^ k % 18446744073709551616:Nat):Int)
def by8 (n i:Nat):Int:=((n/256 ^ i % 256:Nat):Int)
theorem ah (n k:Nat):Word (lw n k):=by unfold lw Word;omega
theorem Ao (n i:Nat):0≤by8 n i∧by8 n i<256:=by unfold by8;omega
abbrev RN:Nat:=115792089237316195423570985008687907853269984665640564039457584007913129639936
def Num.of (n:Nat):Num:=⟨lw n 0,lw n 1,lw n 2,lw n 3⟩
theorem Num.of_ok (n:Nat):(Num.of n).ok:=⟨ah n 0,ah n 1,ah n 2,ah n 3⟩
theorem Num.of_val (n:Nat) (h:n<RN):(Num.of n).val=(n:Int):=by
 simp only [Num.of,Num.val,lw]
 simp only [show (18446744073709551616:Nat) ^ 0=1 from rfl,show (18446744073709551616:Nat) ^ 1=18446744073709551616 from rfl,show (18446744073709551616:Nat) ^ 2=340282366920938463463374607431768211456 from by decide,show (18446744073709551616:Nat) ^ 3=6277101735386680763835789423207666416102355444464034512896 from by decide]
 simp only [RN] at h
 have e2:n/340282366920938463463374607431768211456=n/18446744073709551616/18446744073709551616:=by rw [YL]
 have e3:n/6277101735386680763835789423207666416102355444464034512896=n/18446744073709551616/18446744073709551616/18446744073709551616:=by rw [YL,YL]
 rw [e2,e3,Nat.div_one]
 omega
theorem Num.to_of {s:Num} (h:s.ok) : ∃ n:Nat,n<RN∧(n:Int)=s.val∧s=Num.of n:=by
 have hb:=Num.bound h
 obtain ⟨n,hn⟩:=Int.eq_ofNat_of_zero_le hb.1
 have hlt:n<RN:=by simp only [RR,RN] at *;omega
 exact ⟨n,hlt,hn.symm,Num.inj h (Num.of_ok n) (by rw [Num.of_val n hlt,hn])⟩
def nv (n:Nat):Value := .agg #[.int .u64 (lw n 0),.int .u64 (lw n 1),.int .u64 (lw n 2),.int .u64 (lw n 3)]
theorem N3 (n:Nat):(Num.of n).v=nv n:=rfl
theorem D8 {m n:Nat} (hm:m<RN) (hn:n<RN) (h:nv m=nv n):m=n:=by
 have e:Num.of m=Num.of n:=by
  simp only [nv,Value.agg.injEq,Array.mk.injEq,List.cons.injEq,Value.int.injEq,true_and,and_true] at h
  obtain ⟨h0,h1,h2,h3⟩:=h
  simp only [Num.of,h0,h1,h2,h3]
 have:=congrArg Num.val e
 rw [Num.of_val m hm,Num.of_val n hn] at this
 omega
theorem mq (a:Nat):((a % pp:Nat):Int)=(a:Int) % PP:=by simp only [pp,PP];omega
theorem rR (a b:Nat) (ha:a<RN) (hb:b<RN) (w:World) :
  Calls Tryz.prog 129 #[nv a,nv b] w fun e w' => ∃ s:Nat,s<RN∧e = .returned (nv s)∧s % pp=(a*b) % pp∧Below w.heap.size w w':=by
 refine (Fe.yV a b ha hb w).mono ?_
 rintro e w' ⟨rfl,hbl⟩
 exact ⟨_,Fe.m9 a b,rfl,Fe.ka a b ha hb,hbl⟩
theorem IH (a b:Nat) (ha:a<RN) (hb:b<RN) (w:World) :
  Calls Tryz.prog 139 #[nv a,nv b] w fun e w' => ∃ s:Nat,s<RN∧e = .returned (nv s)∧s % pp=(a+b) % pp∧Below w.heap.size w w':=by
 refine (Fe.Hm a b ha hb w).mono ?_
 rintro e w' ⟨rfl,hbl⟩
 exact ⟨_,Fe.Kn a b,rfl,Fe.FU ha hb,hbl⟩
theorem Gc (a b:Nat) (ha:a<RN) (hb:b<RN) (w:World) :
  Calls Tryz.prog 138 #[nv a,nv b] w fun e w' => ∃ s:Nat,s<RN∧e = .returned (nv s)∧s % pp=(a+(pp - b % pp)) % pp∧Below w.heap.size w w':=by
 refine (Fe.zt a b ha hb w).mono ?_
 rintro e w' ⟨rfl,hbl⟩
 exact ⟨_,Fe.EJ a b,rfl,Fe.ze ha hb,hbl⟩
theorem fc (a:Nat) (ha:a<RN) (w:World) :
  Calls Tryz.prog 136 #[nv a] w fun e w'=>e = .returned (nv (a % pp))∧Below w.heap.size w w':=Fe.oZ a ha w
theorem dH (x y k:Nat) (m:Int) (hm:m=((2 ^ k:Nat):Int)) (X Y:Int) (hX:X=(x:Int)) (hY:Y=(y:Int)) (hx:x<2 ^ k) (hy:y*2 ^ k<18446744073709551616) (hx2:x<18446744073709551616) :
  bits .or .u64 X (Y*m)=X+Y*m:=by
 subst hm;subst hX;subst hY
 rw [←Int.natCast_mul,bits_or_u64_nat x (y*2 ^ k) hx2 hy,←Int.natCast_add]
 congr 1
 rw [←Nat.shiftLeft_eq,Nat.or_comm,←Nat.shiftLeft_add_eq_or_of_lt hx,Nat.add_comm]
set_option maxHeartbeats 1000000 in
theorem Dc (b off cap:Nat) (x0 x1 x2 x3 x4 x5 x6 x7:Nat) (hx:x0<256∧x1<256∧x2<256∧x3<256∧x4<256∧x5<256∧x6<256∧x7<256) (w:World)
  (h0:w.cell? ⟨b,off,none⟩=some (.int .u8 x0)) (h1:w.cell? ⟨b,off+1,none⟩=some (.int .u8 x1)) (h2:w.cell? ⟨b,off+2,none⟩=some (.int .u8 x2)) (h3:w.cell? ⟨b,off+3,none⟩=some (.int .u8 x3))
  (h4:w.cell? ⟨b,off+4,none⟩=some (.int .u8 x4)) (h5:w.cell? ⟨b,off+5,none⟩=some (.int .u8 x5)) (h6:w.cell? ⟨b,off+6,none⟩=some (.int .u8 x6)) (h7:w.cell? ⟨b,off+7,none⟩=some (.int .u8 x7)) :
  Calls Tryz.prog 143 #[.slice (some ⟨b,off,none⟩) 8 cap] w fun e w' =>
   e = .returned (.int .u64 ((x0+x1*256+x2*65536+x3*16777216+x4*4294967296+x5*1099511627776+x6*281474976710656+x7*72057594037927936:Nat):Int)) ∧ ∃ n,w'=w.drewN n:=by
 obtain ⟨y0,hy0⟩ : ∃ y:Int,y=x0:=⟨_,rfl⟩
 obtain ⟨y1,hy1⟩ : ∃ y:Int,y=x1:=⟨_,rfl⟩
 obtain ⟨y2,hy2⟩ : ∃ y:Int,y=x2:=⟨_,rfl⟩
 obtain ⟨y3,hy3⟩ : ∃ y:Int,y=x3:=⟨_,rfl⟩
 obtain ⟨y4,hy4⟩ : ∃ y:Int,y=x4:=⟨_,rfl⟩
 obtain ⟨y5,hy5⟩ : ∃ y:Int,y=x5:=⟨_,rfl⟩
 obtain ⟨y6,hy6⟩ : ∃ y:Int,y=x6:=⟨_,rfl⟩
 obtain ⟨y7,hy7⟩ : ∃ y:Int,y=x7:=⟨_,rfl⟩
 have o1:=dH x0 x1 8 256 (by decide) y0 y1 hy0 hy1 (by omega) (by omega) (by omega)
 have o2:=dH (x0+x1*256) x2 16 65536 (by decide) (y0+y1*256) y2 (by omega) hy2 (by omega) (by omega) (by omega)
 have o3:=dH (x0+x1*256+x2*65536) x3 24 16777216 (by decide) (y0+y1*256+y2*65536) y3 (by omega) hy3 (by omega) (by omega) (by omega)
 have o4:=dH (x0+x1*256+x2*65536+x3*16777216) x4 32 4294967296 (by decide) (y0+y1*256+y2*65536+y3*16777216) y4 (by omega) hy4 (by omega) (by omega) (by omega)
 have o5:=dH (x0+x1*256+x2*65536+x3*16777216+x4*4294967296) x5 40 1099511627776 (by decide) (y0+y1*256+y2*65536+y3*16777216+y4*4294967296) y5 (by omega) hy5 (by omega) (by omega) (by omega)
 have o6:=dH (x0+x1*256+x2*65536+x3*16777216+x4*4294967296+x5*1099511627776) x6 48 281474976710656 (by decide) (y0+y1*256+y2*65536+y3*16777216+y4*4294967296+y5*1099511627776) y6 (by omega) hy6 (by omega) (by omega) (by omega)
 have o7:=dH (x0+x1*256+x2*65536+x3*16777216+x4*4294967296+x5*1099511627776+x6*281474976710656) x7 56 72057594037927936 (by decide) (y0+y1*256+y2*65536+y3*16777216+y4*4294967296+y5*1099511627776+y6*281474976710656) y7 (by omega) hy7 (by omega) (by omega) (by omega)
 have v0:IntKind.u64.wrap y0=y0:=by rw [IntKind.wrap_u64];omega
 have v1:IntKind.u64.wrap y1=y1:=by rw [IntKind.wrap_u64];omega
 have v2:IntKind.u64.wrap y2=y2:=by rw [IntKind.wrap_u64];omega
 have v3:IntKind.u64.wrap y3=y3:=by rw [IntKind.wrap_u64];omega
 have v4:IntKind.u64.wrap y4=y4:=by rw [IntKind.wrap_u64];omega
 have v5:IntKind.u64.wrap y5=y5:=by rw [IntKind.wrap_u64];omega
 have v6:IntKind.u64.wrap y6=y6:=by rw [IntKind.wrap_u64];omega
 have v7:IntKind.u64.wrap y7=y7:=by rw [IntKind.wrap_u64];omega
 have s1:IntKind.u64.wrap (y1*256)=y1*256:=by rw [IntKind.wrap_u64];omega
 have s2:IntKind.u64.wrap (y2*65536)=y2*65536:=by rw [IntKind.wrap_u64];omega
 have s3:IntKind.u64.wrap (y3*16777216)=y3*16777216:=by rw [IntKind.wrap_u64];omega
 have s4:IntKind.u64.wrap (y4*4294967296)=y4*4294967296:=by rw [IntKind.wrap_u64];omega
 have s5:IntKind.u64.wrap (y5*1099511627776)=y5*1099511627776:=by rw [IntKind.wrap_u64];omega
 have s6:IntKind.u64.wrap (y6*281474976710656)=y6*281474976710656:=by rw [IntKind.wrap_u64];omega
 have s7:IntKind.u64.wrap (y7*72057594037927936)=y7*72057594037927936:=by rw [IntKind.wrap_u64];omega
 have HE:Hid (y0+y1*256+y2*65536+y3*16777216+y4*4294967296+y5*1099511627776+y6*281474976710656+y7*72057594037927936=((x0+x1*256+x2*65536+x3*16777216+x4*4294967296+x5*1099511627776+x6*281474976710656+x7*72057594037927936:Nat):Int)):=by show _=_;omega
 rw [←HE.out]
 rw [←hy0] at h0;rw [←hy1] at h1;rw [←hy2] at h2;rw [←hy3] at h3;rw [←hy4] at h4;rw [←hy5] at h5;rw [←hy6] at h6;rw [←hy7] at h7
 clear hy0 hy1 hy2 hy3 hy4 hy5 hy6 hy7 HE hx
 go_enter Tryz.func143,Tryz.ntmps143
 go_wp2
 go_quiet (fail)
 go_wp2
 go_ret
 exact ⟨rfl,nq,rfl⟩
def bl (n:Nat):List Value:=(List.range 32).map fun i=>Value.int .u8 (by8 n i)
def br (n:Nat):Array Value:=(bl n).toArray
theorem bY (n:Nat):(bl n).length=32:=by simp [bl]
def bv (n:Nat):Value := .agg (br n)
theorem aM (n:Nat):(br n).size=32:=by simp [br,bl]
theorem jL (n i:Nat) (h:i<32):(br n)[i]? = some (.int .u8 (by8 n i)):=by simp [br,bl,h]
theorem iN (n:Nat):(br n).all (·.oneCell')=true:=by
 rw [Array.all_eq_true]
 intro i hi
 rw [aM] at hi
 have:=jL n i hi
 rw [Array.getElem?_eq_getElem (by rw [aM];exact hi)] at this
 rw [Option.some.inj this];rfl
theorem DF (x:Nat) (h:x<18446744073709551616):x=x % 256+x/256 % 256*256+x/65536 % 256*65536+x/16777216 % 256*16777216+x/4294967296 % 256*4294967296+x/1099511627776 % 256*1099511627776+x/281474976710656 % 256*281474976710656+x/72057594037927936 % 256*72057594037927936:=by
 have e1:x/65536=x/256/256:=by rw [YL]
 have e2:x/16777216=x/256/256/256:=by rw [YL,YL]
 have e3:x/4294967296=x/256/256/256/256:=by rw [YL,YL,YL]
 have e4:x/1099511627776=x/256/256/256/256/256:=by rw [YL,YL,YL,YL]
 have e5:x/281474976710656=x/256/256/256/256/256/256:=by rw [YL,YL,YL,YL,YL]
 have e6:x/72057594037927936=x/256/256/256/256/256/256/256:=by rw [YL,YL,YL,YL,YL,YL]
 rw [e1,e2,e3,e4,e5,e6]
 omega
theorem gO (n k j:Nat) (hj:j<8):n/256 ^ (8*k+j) % 256=n/18446744073709551616 ^ k % 18446744073709551616/256 ^ j % 256:=by
 have e:(256:Nat) ^ (8*k+j)=18446744073709551616 ^ k*256 ^ j:=by rw [Nat.pow_add,Nat.pow_mul]
 rw [e,←YL]
 have e2:(18446744073709551616:Nat)=256 ^ j*(256*256 ^ (7 - j)):=by
  rw [←Nat.pow_succ',←Nat.pow_add,show j+(7 - j).succ=8 by omega]
 generalize n/18446744073709551616 ^ k=x
 rw [e2,Nat.mod_mul_right_div_self,Nat.mod_mul_right_mod]
theorem Ie (b o cap n k:Nat) (w:World) (hc : ∀ i,i<32→w.cell? ⟨b,i,none⟩=some (.int .u8 (by8 n i))) (hk:k<4) (ho:o=8*k) :
  Calls Tryz.prog 143 #[.slice (some ⟨b,o,none⟩) 8 cap] w fun e w'=>e = .returned (.int .u64 (lw n k)) ∧ ∃ m,w'=w.drewN m:=by
 subst ho
 have q : ∀ j,j<8→w.cell? ⟨b,8*k+j,none⟩=some (.int .u8 ((n/18446744073709551616 ^ k % 18446744073709551616/256 ^ j % 256:Nat):Int)):=fun j hj=>by
  rw [hc _ (by omega),by8,gO n k j hj]
 refine (Dc b (8*k) cap _ _ _ _ _ _ _ _ ⟨?_,?_,?_,?_,?_,?_,?_,?_⟩ w (q 0 (by omega)) (q 1 (by omega)) (q 2 (by omega)) (q 3 (by omega)) (q 4 (by omega)) (q 5 (by omega)) (q 6 (by omega)) (q 7 (by omega))).mono ?_
 ·exact Nat.mod_lt _ (by decide)
 ·exact Nat.mod_lt _ (by decide)
 ·exact Nat.mod_lt _ (by decide)
 ·exact Nat.mod_lt _ (by decide)
 ·exact Nat.mod_lt _ (by decide)
 ·exact Nat.mod_lt _ (by decide)
 ·exact Nat.mod_lt _ (by decide)
 ·exact Nat.mod_lt _ (by decide)
 ·rintro e w' ⟨rfl,m,rfl⟩
  refine ⟨?_,m,rfl⟩
  congr 2
  rw [lw]
  have:=DF (n/18446744073709551616 ^ k % 18446744073709551616) (Nat.mod_lt _ (by decide))
  simp only [show (256:Nat) ^ 0=1 from rfl,show (256:Nat) ^ 1=256 from rfl,show (256:Nat) ^ 2=65536 from rfl,show (256:Nat) ^ 3=16777216 from rfl,show (256:Nat) ^ 4=4294967296 from rfl,show (256:Nat) ^ 5=1099511627776 from rfl,show (256:Nat) ^ 6=281474976710656 from rfl,show (256:Nat) ^ 7=72057594037927936 from rfl,Nat.div_one]
  rw [←this]
theorem cq:(Tryz.prog.info? 5).map (·.size)=some 1:=by kernel_rfl
theorem bL (g o j:Nat):(⟨g,o,none⟩:Addr).add j=⟨g,o+j,none⟩:=Addr.add_mid g o j
theorem gv {P:Program} {t e:TypeId} {n:Nat} (hu:P.underlying t=some (.array n e)):P.arrayLen t=n∧P.elem t=e:=by
 constructor
 ·simp [Program.arrayLen,hu]
 ·simp [Program.elem,hu]
theorem gH {P:Program} {e:TypeId} {s:Nat} (hs:(P.info? e).map (·.size)=some s) (w:World):(sizeOf e).run P w = .ok s w:=by
 cases hq:P.info? e with
 | none=>simp [hq] at hs
 | some i=>simp [hq] at hs;simp [sizeOf,typeInfo,hq,hs]
theorem cF {P:Program} (w:World) (t e:TypeId) (n g o:Nat) (lo hi:Int) (l h:Nat) (hl:lo=l) (hh:hi=h) (hu:P.underlying t=some (.array n e)) (hs:(P.info? e).map (·.size)=some 1) (h1:l≤h) (h2:h≤n) (h3:l<n) :
  (Instr.sliceAt t (.pointer (some ⟨g,o,none⟩)) (some (.int .i64 lo)) (some (.int .i64 hi)) none).run P w = .ok (.slice (some ⟨g,o+l,none⟩) (h - l) (n - l)) w:=by
 subst hl;subst hh
 obtain ⟨e1,e2⟩:=gv hu
 rw [run_sliceAt_array_lh w t _ (by rw [e1,e2];exact hu) _ _ _ _ (by omega) (by omega) (by rw [e1];omega),e2,gH hs w,e1]
 simp [slicedAt,bL]
 omega
theorem pq (w:World) (n:Nat) (a:Addr):(w.drewN n).cell? a=w.cell? a:=by
 induction n with
 | zero=>rfl
 | succ n ih=>exact ih
theorem fG {B0:Nat} {a w:World} (h:Below B0 a w) (n:Nat):Below B0 a (w.drewN n):=by
 induction n with
 | zero=>exact h
 | succ n ih=>exact ih.drew
end Go.Proofs.YtajehiidpecknaaGreatDoor
namespace Go.Proofs.YtajehiidpecknaaGreatDoor
open Go Go.RowKit Go.Lib
theorem EG (b o cap n:Nat) (w:World) (hc : ∀ i,i<32→w.cell? ⟨b,i,none⟩=some (.int .u8 (by8 n i))) (h8:o % 8=0) (h32:o<32) :
  Calls Tryz.prog 143 #[.slice (some ⟨b,o,none⟩) 8 cap] w fun e w'=>e = .returned (.int .u64 (lw n (o/8))) ∧ ∃ m,w'=w.drewN m :=
 Ie b o cap n (o/8) w hc (by omega) (by omega)
theorem iX (w1:World) (g k:Nat) (lo hi:Int) (hl:lo=((8*k:Nat):Int)) (hh:hi=((8*k+8:Nat):Int)) (hk:k<4) :
  (Instr.sliceAt 22 (.pointer (some ⟨g,0,none⟩)) (some (.int .i64 lo)) (some (.int .i64 hi)) none).run Tryz.prog w1 = .ok (.slice (some ⟨g,8*k,none⟩) 8 (32 - 8*k)) w1:=by
 have:=cF w1 22 5 32 g 0 lo hi (8*k) (8*k+8) hl hh Tryz.underlying22 cq (by omega) (by omega) (by omega)
 rw [show 8*k+8 - 8*k=8 by omega,Nat.zero_add] at this
 exact this
theorem heap_drewN {w:World} {b m:Nat} {o:Obj} (h:w.heap[b]? = some o):(w.drewN m).heap[b]? = some o:=by
 induction m with
 | zero=>exact h
 | succ n ih=>exact ih
theorem Ae (w:World) (b:Nat) (y0 y1 y2 y3:Value) (a:Addr) (h:a.block≠b):(kX w b y0 y1 y2 y3).cell? a=w.cell? a:=by
 simp only [World.cell?,kP w b a.block y0 y1 y2 y3 h]
set_option maxHeartbeats 1000000 in
theorem gL (n:Nat) (w:World) :
  Calls Tryz.prog 128 #[bv n] w fun e w'=>e = .returned (nv n)∧Below w.heap.size w w':=by
 unfold bv nv
 have hsz:=aM n
 have HC:Hid (∀ i,i<32→((w.alloc (.cells (br n) 22)).alloc (.cells #[.int .u64 0,.int .u64 0,.int .u64 0,.int .u64 0] 137)).cell? ⟨w.heap.size,i,none⟩=some (.int .u8 (by8 n i))):=fun i hi=>by
  rw [World.cell?_alloc_past _ _ _ (by simp),World.cell?_alloc_at _ _ _ _ rfl];exact jL n i hi
 have sl0 : ∀ w1:World,(Instr.sliceAt 22 (.pointer (some ⟨w.heap.size,0,none⟩)) (some (.int .i64 0)) (some (.int .i64 8)) none).run Tryz.prog w1 = .ok (.slice (some ⟨w.heap.size,0,none⟩) 8 32) w1:=fun w1=>iX w1 w.heap.size 0 0 8 (by decide) (by decide) (by omega)
 have sl1 : ∀ w1:World,(Instr.sliceAt 22 (.pointer (some ⟨w.heap.size,0,none⟩)) (some (.int .i64 8)) (some (.int .i64 16)) none).run Tryz.prog w1 = .ok (.slice (some ⟨w.heap.size,8,none⟩) 8 24) w1:=fun w1=>iX w1 w.heap.size 1 8 16 (by decide) (by decide) (by omega)
 have sl2 : ∀ w1:World,(Instr.sliceAt 22 (.pointer (some ⟨w.heap.size,0,none⟩)) (some (.int .i64 16)) (some (.int .i64 24)) none).run Tryz.prog w1 = .ok (.slice (some ⟨w.heap.size,16,none⟩) 8 16) w1:=fun w1=>iX w1 w.heap.size 2 16 24 (by decide) (by decide) (by omega)
 have sl3 : ∀ w1:World,(Instr.sliceAt 22 (.pointer (some ⟨w.heap.size,0,none⟩)) (some (.int .i64 24)) (some (.int .i64 32)) none).run Tryz.prog w1 = .ok (.slice (some ⟨w.heap.size,24,none⟩) 8 8) w1:=fun w1=>iX w1 w.heap.size 3 24 32 (by decide) (by decide) (by omega)
 go_enter Tryz.func128,Tryz.ntmps128
 go_wp2
 obtain ⟨w0,hw0⟩ : ∃ x,x=(w.alloc (.cells (br n) 22)).alloc (.cells #[.int .u64 0,.int .u64 0,.int .u64 0,.int .u64 0] 137):=⟨_,rfl⟩
 have HB0:Hid (Below w.heap.size w w0):=by rw [hw0];exact ((Below.refl _ _).alloc (Nat.le_refl _) _).alloc (by simp) _
 have R0:w0.heap[w.heap.size+1]? = some (.cells #[.int .u64 0,.int .u64 0,.int .u64 0,.int .u64 0] 137):=by rw [hw0];exact aj _ _ _ (by simp)
 have C0 : ∀ i,i<32→w0.cell? ⟨w.heap.size,i,none⟩=some (.int .u8 (by8 n i)):=by rw [hw0];exact HC.out
 rw [←hw0]
 clear hw0 HC
 obtain ⟨r0,r1,r2,r3,f0,f1,f2,f3⟩:=four R0
 go_region_held3 (fun w' => ∀ i,i<32→w'.cell? ⟨w.heap.size,i,none⟩=some (.int .u8 (by8 n i))) (first | exact C0 | (intro i hi;rw [pq];revert i hi;assumption) | (intro i hi;refine (Ae _ (w.heap.size+1) _ _ _ _ ⟨w.heap.size,i,none⟩ (by simp)).trans ?_;rw [pq];exact C0 i hi))
  ((go_at_call 143;refine (EG _ _ _ n _ (by assumption) (by decide) (by decide)).mono ?_;rintro e w' ⟨rfl,m,rfl⟩))
 go_wp2
 refine bodyPost_ret (v := .agg #[.int .u64 (lw n 0),.int .u64 (lw n 1),.int .u64 (lw n 2),.int .u64 (lw n 3)]) (aN Tryz.results128 _ _ (w.heap.size+1) 0 [.int .u64 (lw n 0),.int .u64 (lw n 1),.int .u64 (lw n 2),.int .u64 (lw n 3)] _ rfl (Kg (t:=137) (eV _ _ _ _ (heap_drewN R0))) Tryz.underlying137 rfl (by kernel_rfl)) rfl ⟨rfl,jM (fG HB0.out _) (by omega) _ _ _ _⟩
end Go.Proofs.YtajehiidpecknaaGreatDoor
namespace Go.Proofs.YtajehiidpecknaaGreatDoor
open Go Go.RowKit Go.Lib
theorem dW {w:World} {g:Nat} {cs cs':Array Value} {t:TypeId} (hg:w.heap[g]? = some (.cells cs t (0,0))) (o:Nat) (vs:List Value) (hn:o+vs.length≤cs.size)
  (h : ∀ i,cs'[i]? = if o≤i∧i<o+vs.length then vs[i - o]? else cs[i]?):(w.setCells g o vs).heap[g]? = some (.cells cs' t (0,0)):=by
 induction vs generalizing w cs o with
 | nil =>
  have:cs'=cs:=Array.ext_getElem? (fun i=>by
   have hne : ¬ (o≤i∧i<o+([]:List Value).length):=by simp
   rw [h i,if_neg hne])
  rw [this];exact hg
 | cons v r ih =>
  rw [World.setCells]
  refine ih (heap_setCell_same _ _ _ _ _ _ hg) (o+1) (by simp at hn ⊢;omega) (fun i => ?_)
  rw [h i,Array.getElem?_setIfInBounds]
  simp only [List.length_cons] at hn ⊢
  by_cases h1:i=o
  ·subst h1
   rw [if_pos (by omega),if_neg (by omega),if_pos rfl,if_pos (by omega),Nat.sub_self];rfl
  ·by_cases h2:o+1≤i∧i<o+1+r.length
   ·rw [if_pos (by omega),if_pos h2,show i - o=(i - (o+1))+1 by omega];rfl
   ·rw [if_neg (by omega),if_neg h2,if_neg (by omega)]
theorem af {B0:Nat} {a:World} (b:Nat) (hB:B0≤b) : ∀ (vs:List Value) (o:Nat) (w:World),Below B0 a w→Below B0 a (w.setCells b o vs)
 | [],_,_,h=>h
 | v :: r,o,w,h=>by
  rw [World.setCells]
  exact af b hB r (o+1) _ (h.setCell hB v)
theorem a7 (b c:Nat) (hc:c≠b) : ∀ (vs:List Value) (o:Nat) (w:World),(w.setCells b o vs).heap[c]? = w.heap[c]?
 | [],_,_=>rfl
 | v :: r,o,w=>by
  rw [World.setCells,a7 b c hc r (o+1) _]
  simp [World.setCell,Array.getElem?_modify,Ne.symm hc]
theorem aw {w:World} {g:Nat} {cs:Array Value} {t:TypeId} (hg:w.heap[g]? = some (.cells cs t (0,0))) (o n:Nat) (hn:o+n≤cs.size):w.there g o n:=fun j hj =>
 ⟨by rw [cell_of_row w g (o+j) cs t _ hg,Array.getElem?_eq_getElem (by omega)];rfl,frozen_of_row _ _ _ _ _ hg⟩
theorem bP {w:World} {g:Nat} {cs:Array Value} {t:TypeId} (hg:w.heap[g]? = some (.cells cs t (0,0))):w.rangeAt g 0 cs.toList:=fun j v hv=>by
 rw [Nat.zero_add,cell_of_row w g j cs t _ hg]
 simpa using hv
def b8 (x:Int):List Value:=[.int .u8 (x % 256),.int .u8 (x/256 % 256),.int .u8 (x/65536 % 256),.int .u8 (x/16777216 % 256),.int .u8 (x/4294967296 % 256),.int .u8 (x/1099511627776 % 256),.int .u8 (x/281474976710656 % 256),.int .u8 (x/72057594037927936 % 256)]
set_option maxHeartbeats 1000000 in
theorem fJ (b off cap:Nat) (x:Int) (w:World) (ht:w.there b off 8) :
  Calls Tryz.prog 140 #[.slice (some ⟨b,off,none⟩) 8 cap,.int .u64 x] w fun e w'=>e = .returned (.tuple #[])∧w.setCells b off (b8 x)=w':=by
 obtain ⟨v0,h0⟩:=Option.isSome_iff_exists.1 (ht 0 (by omega)).1
 have f0:=(ht 0 (by omega)).2
 obtain ⟨v1,h1⟩:=Option.isSome_iff_exists.1 (ht 1 (by omega)).1
 have f1:=(ht 1 (by omega)).2
 obtain ⟨v2,h2⟩:=Option.isSome_iff_exists.1 (ht 2 (by omega)).1
 have f2:=(ht 2 (by omega)).2
 obtain ⟨v3,h3⟩:=Option.isSome_iff_exists.1 (ht 3 (by omega)).1
 have f3:=(ht 3 (by omega)).2
 obtain ⟨v4,h4⟩:=Option.isSome_iff_exists.1 (ht 4 (by omega)).1
 have f4:=(ht 4 (by omega)).2
 obtain ⟨v5,h5⟩:=Option.isSome_iff_exists.1 (ht 5 (by omega)).1
 have f5:=(ht 5 (by omega)).2
 obtain ⟨v6,h6⟩:=Option.isSome_iff_exists.1 (ht 6 (by omega)).1
 have f6:=(ht 6 (by omega)).2
 obtain ⟨v7,h7⟩:=Option.isSome_iff_exists.1 (ht 7 (by omega)).1
 have f7:=(ht 7 (by omega)).2
 clear ht
 simp only [Nat.add_zero] at h0 f0
 go_enter Tryz.func140,Tryz.ntmps140
 go_wp2
 try simp only [IntKind.wrap_u8']
 go_end0
 exact ⟨rfl,rfl⟩
theorem Kt (n k j:Nat) (h:j<8):(b8 (lw n k))[j]? = some (.int .u8 (by8 n (8*k+j))):=by
 have e:=gO n k j h
 simp only [by8,e,lw]
 generalize n/18446744073709551616 ^ k % 18446744073709551616=x
 match j,h with
 | 0,_=>simp [b8]
 | 1,_=>simp [b8]
 | 2,_=>simp [b8]
 | 3,_=>simp [b8]
 | 4,_=>simp [b8]
 | 5,_=>simp [b8]
 | 6,_=>simp [b8]
 | 7,_=>simp [b8]
theorem zD (n m i:Nat):by8 (n % 18446744073709551616 ^ m) i=if i<8*m then by8 n i else 0:=by
 have e:(18446744073709551616:Nat) ^ m=256 ^ (8*m):=by rw [Nat.pow_mul]
 rw [e,by8,by8]
 split
 ·rename_i h
  have e2:(256:Nat) ^ (8*m)=256 ^ i*(256*256 ^ (8*m - i - 1)):=by
   rw [←Nat.pow_succ',←Nat.pow_add];congr 1;omega
  rw [e2,Nat.mod_mul_right_div_self,Nat.mod_mul_right_mod]
 ·rename_i h
  have hlt:n % 256 ^ (8*m)<256 ^ i:=YI (Nat.mod_lt _ (Nat.pow_pos (by decide))) (Nat.pow_le_pow_right (by decide) (by omega))
  rw [Nat.div_eq_of_lt hlt];rfl
theorem mN (n i:Nat):(br n)[i]? = if i<32 then some (.int .u8 (by8 n i)) else none:=by
 split
 ·rename_i h;exact jL n i h
 ·rename_i h;rw [Array.getElem?_eq_none (by rw [aM];omega)]
theorem Hg {w:World} {q n k:Nat} (hk:k<4) (h:w.heap[q]? = some (.cells (br (n % 18446744073709551616 ^ k)) 22 (0,0))) :
  (w.setCells q (8*k) (b8 (lw n k))).heap[q]? = some (.cells (br (n % 18446744073709551616 ^ (k+1))) 22 (0,0)):=by
 have hl:(b8 (lw n k)).length=8:=rfl
 refine dW h (8*k) _ (by rw [aM,hl];omega) (fun i => ?_)
 rw [mN,mN,zD,zD,hl]
 by_cases h1:8*k≤i∧i<8*k+8
 ·rw [if_pos h1,if_pos (by omega),if_pos (by omega),Kt n k _ (by omega),show 8*k+(i - 8*k)=i by omega]
 ·rw [if_neg h1]
  by_cases h2:i<32
  ·rw [if_pos h2,if_pos h2]
   by_cases h3:i<8*k
   ·rw [if_pos h3,if_pos (by omega)]
   ·rw [if_neg h3,if_neg (by omega)]
  ·rw [if_neg h2,if_neg h2]
theorem bG (w:World):(zeroValue 22).run Tryz.prog w = .ok (.agg (br 0)) w:=by kernel_rfl
end Go.Proofs.YtajehiidpecknaaGreatDoor
namespace Go.Proofs.YtajehiidpecknaaGreatDoor
open Go Go.RowKit Go.Lib
structure SR (w wr:World) (q m k:Nat):Prop where
 below:Below w.heap.size w wr
 hq:w.heap.size+2≤q
 num:wr.heap[w.heap.size]? = some (.cells #[.int .u64 (lw m 0),.int .u64 (lw m 1),.int .u64 (lw m 2),.int .u64 (lw m 3)] 137 (0,0))
 res:wr.heap[w.heap.size+1]? = some (.cells (br 0) 22 (0,0))
 byt:wr.heap[q]? = some (.cells (br (m % 18446744073709551616 ^ k)) 22 (0,0))
theorem SR.put {w wr:World} {q m k:Nat} (h:SR w wr q m k) (hk:k<4) (o:Nat) (ho:o=8*k) (x:Int) (hx:x=lw m k):SR w (wr.setCells q o (b8 x)) q m (k+1):=by
 subst ho;subst hx
 have:=h.hq
 exact ⟨af _ (by omega) _ _ _ h.below,h.hq,(a7 _ _ (by omega) _ _ _).trans h.num,(a7 _ _ (by omega) _ _ _).trans h.res,Hg hk h.byt⟩
theorem SR.drew {w wr:World} {q m k:Nat} (h:SR w wr q m k):SR w wr.drew q m k:=⟨h.below.drew,h.hq,h.num,h.res,h.byt⟩
theorem SR.there {w wr:World} {q m k:Nat} (h:SR w wr q m k) (hk:k<4) (o:Nat) (ho:o=8*k):wr.there q o 8:=aw h.byt _ _ (by rw [aM];omega)
set_option maxRecDepth 100000 in
set_option maxHeartbeats 1000000 in
theorem eS (a:Nat) (ha:a<RN) (w:World) :
  Calls Tryz.prog 126 #[nv a] w fun e w'=>e = .returned (bv (a % pp))∧Below w.heap.size w w':=by
 unfold bv
 have hz:=bG
 have hb0s:=aM 0
 obtain ⟨m,hm⟩ : ∃ m,m=a % pp:=⟨_,rfl⟩
 have hmlt:m<RN:=by rw [hm];exact Nat.lt_of_le_of_lt (Nat.mod_le _ _) ha
 rw [←hm]
 have hset:=fc a ha
 rw [←hm] at hset
 clear hm
 unfold nv at *
 go_enter Tryz.func126,Tryz.ntmps126
 go_wp2_with fail
 refine (hset _).mono ?_
 rintro e w1 ⟨rfl,hb⟩
 have HB1:Hid (Below w.heap.size w w1):=chain (w:=(w.alloc (.cells #[.int .u64 (lw a 0),.int .u64 (lw a 1),.int .u64 (lw a 2),.int .u64 (lw a 3)] 137)).alloc (.cells (br 0) 22)) (((Below.refl _ _).alloc (Nat.le_refl _) _).alloc (by simp) _) hb
 have N1:w1.heap[w.heap.size]? = some (.cells #[.int .u64 (lw a 0),.int .u64 (lw a 1),.int .u64 (lw a 2),.int .u64 (lw a 3)] 137):=cS hb ((az _ _ _ (by simp)).trans (aj _ _ _ rfl))
 have R1:w1.heap[w.heap.size+1]? = some (.cells (br 0) 22):=cS hb (aj _ _ _ (by simp))
 have z1:w.heap.size+2≤w1.heap.size:=by have:=hb.size;simpa using this
 clear hb
 obtain ⟨c0,c1,c2,c3,f0,f1,f2,f3⟩:=four N1
 have l1:w.heap.size<w1.heap.size:=by omega
 have HS0:Hid (SR w ((kX w1 w.heap.size (.int .u64 (lw m 0)) (.int .u64 (lw m 1)) (.int .u64 (lw m 2)) (.int .u64 (lw m 3))).alloc (.cells (br 0) 22)) w1.heap.size m 0):=by
  refine ⟨(jM HB1.out (Nat.le_refl _) _ _ _ _).alloc (by rw [eZ];omega) _,z1,?_,?_,?_⟩
  ·exact (az _ _ _ (by rw [eZ];omega)).trans (eV _ _ _ _ N1)
  ·exact (az _ _ _ (by rw [eZ];omega)).trans ((kP _ _ _ _ _ _ _ (by omega)).trans R1)
  ·rw [Nat.pow_zero,Nat.mod_one];exact aj _ _ _ (by rw [eZ])
 go_wp2_with fail
 rw [Hn]
 obtain ⟨x0,hx0⟩ : ∃ x,x=(kX w1 w.heap.size (.int .u64 (lw m 0)) (.int .u64 (lw m 1)) (.int .u64 (lw m 2)) (.int .u64 (lw m 3))).alloc (.cells (br 0) 22):=⟨_,rfl⟩
 have S0:Hid (SR w x0 w1.heap.size m 0):=by rw [hx0];exact HS0.out
 rw [←hx0]
 clear hx0 HS0 c0 c1 c2 c3 f0 f1 f2 f3
 have c0:x0.drew.cell? ⟨w.heap.size,0,none⟩=some (.int .u64 (lw m 0)):=(four S0.out.num).1
 have T0:Hid (x0.drew.there w1.heap.size 0 8):=S0.out.drew.there (by omega) 0 (by decide)
 have P0:Hid (SR w (x0.drew.setCells w1.heap.size 0 (b8 (lw m 0))) w1.heap.size m 1):=S0.out.drew.put (by omega) 0 (by decide) _ rfl
 have sl0 : ∀ wz:World,(Instr.sliceAt 22 (.pointer (some ⟨w1.heap.size,0,none⟩)) (some (.int .i64 0)) (some (.int .i64 8)) none).run Tryz.prog wz = .ok (.slice (some ⟨w1.heap.size,0,none⟩) 8 32) wz:=fun wz=>iX wz w1.heap.size 0 0 8 (by decide) (by decide) (by omega)
 go_region_held3 (fun w'=>w'.cell? ⟨w.heap.size,0,none⟩=some (.int .u64 (lw m 0))) (first | with_reducible exact c0 | with_reducible exact (four P0.out.num).1)
  ((go_at_call 140;refine (fJ w1.heap.size 0 32 (lw m 0) _ T0.out).mono ?_;rintro e w' ⟨rfl,rfl⟩))
 obtain ⟨x1,hx1⟩ : ∃ x,x=x0.drew.setCells w1.heap.size 0 (b8 (lw m 0)):=⟨_,rfl⟩
 have S1:Hid (SR w x1 w1.heap.size m 1):=by rw [hx1];exact P0.out
 rw [←hx1]
 clear hx1 c0
 go_wp2_with fail
 have c1:x1.drew.cell? ⟨w.heap.size,1,none⟩=some (.int .u64 (lw m 1)):=(four S1.out.num).2.1
 have T1:Hid (x1.drew.there w1.heap.size 8 8):=S1.out.drew.there (by omega) 8 (by decide)
 have P1:Hid (SR w (x1.drew.setCells w1.heap.size 8 (b8 (lw m 1))) w1.heap.size m 2):=S1.out.drew.put (by omega) 8 (by decide) _ rfl
 have sl1 : ∀ wz:World,(Instr.sliceAt 22 (.pointer (some ⟨w1.heap.size,0,none⟩)) (some (.int .i64 8)) (some (.int .i64 16)) none).run Tryz.prog wz = .ok (.slice (some ⟨w1.heap.size,8,none⟩) 8 24) wz:=fun wz=>iX wz w1.heap.size 1 8 16 (by decide) (by decide) (by omega)
 go_region_held3 (fun w'=>w'.cell? ⟨w.heap.size,1,none⟩=some (.int .u64 (lw m 1))) (first | with_reducible exact c1 | with_reducible exact (four P1.out.num).2.1)
  ((go_at_call 140;refine (fJ w1.heap.size 8 24 (lw m 1) _ T1.out).mono ?_;rintro e w' ⟨rfl,rfl⟩))
 obtain ⟨x2,hx2⟩ : ∃ x,x=x1.drew.setCells w1.heap.size 8 (b8 (lw m 1)):=⟨_,rfl⟩
 have S2:Hid (SR w x2 w1.heap.size m 2):=by rw [hx2];exact P1.out
 rw [←hx2]
 clear hx2 c1
 go_wp2_with fail
 have c2:x2.drew.cell? ⟨w.heap.size,2,none⟩=some (.int .u64 (lw m 2)):=(four S2.out.num).2.2.1
 have T2:Hid (x2.drew.there w1.heap.size 16 8):=S2.out.drew.there (by omega) 16 (by decide)
 have P2:Hid (SR w (x2.drew.setCells w1.heap.size 16 (b8 (lw m 2))) w1.heap.size m 3):=S2.out.drew.put (by omega) 16 (by decide) _ rfl
 have sl2 : ∀ wz:World,(Instr.sliceAt 22 (.pointer (some ⟨w1.heap.size,0,none⟩)) (some (.int .i64 16)) (some (.int .i64 24)) none).run Tryz.prog wz = .ok (.slice (some ⟨w1.heap.size,16,none⟩) 8 16) wz:=fun wz=>iX wz w1.heap.size 2 16 24 (by decide) (by decide) (by omega)
 go_region_held3 (fun w'=>w'.cell? ⟨w.heap.size,2,none⟩=some (.int .u64 (lw m 2))) (first | with_reducible exact c2 | with_reducible exact (four P2.out.num).2.2.1)
  ((go_at_call 140;refine (fJ w1.heap.size 16 16 (lw m 2) _ T2.out).mono ?_;rintro e w' ⟨rfl,rfl⟩))
 obtain ⟨x3,hx3⟩ : ∃ x,x=x2.drew.setCells w1.heap.size 16 (b8 (lw m 2)):=⟨_,rfl⟩
 have S3:Hid (SR w x3 w1.heap.size m 3):=by rw [hx3];exact P2.out
 rw [←hx3]
 clear hx3 c2
 go_wp2_with fail
 have c3:x3.drew.cell? ⟨w.heap.size,3,none⟩=some (.int .u64 (lw m 3)):=(four S3.out.num).2.2.2.1
 have T3:Hid (x3.drew.there w1.heap.size 24 8):=S3.out.drew.there (by omega) 24 (by decide)
 have P3:Hid (SR w (x3.drew.setCells w1.heap.size 24 (b8 (lw m 3))) w1.heap.size m 4):=S3.out.drew.put (by omega) 24 (by decide) _ rfl
 have sl3 : ∀ wz:World,(Instr.sliceAt 22 (.pointer (some ⟨w1.heap.size,0,none⟩)) (some (.int .i64 24)) (some (.int .i64 32)) none).run Tryz.prog wz = .ok (.slice (some ⟨w1.heap.size,24,none⟩) 8 8) wz:=fun wz=>iX wz w1.heap.size 3 24 32 (by decide) (by decide) (by omega)
 go_region_held3 (fun w'=>w'.cell? ⟨w.heap.size,3,none⟩=some (.int .u64 (lw m 3))) (first | with_reducible exact c3 | with_reducible exact (four P3.out.num).2.2.2.1)
  ((go_at_call 140;refine (fJ w1.heap.size 24 8 (lw m 3) _ T3.out).mono ?_;rintro e w' ⟨rfl,rfl⟩))
 obtain ⟨x4,hx4⟩ : ∃ x,x=x3.drew.setCells w1.heap.size 24 (b8 (lw m 3)):=⟨_,rfl⟩
 have S4:Hid (SR w x4 w1.heap.size m 4):=by rw [hx4];exact P3.out
 rw [←hx4]
 clear hx4 c3
 have hmm:m % 18446744073709551616 ^ (3+1)=m:=YK (by simp only [RN] at hmlt;exact hmlt)
 have HC:Hid (x4.rangeAt w1.heap.size 0 (br m).toList):=by have:=S4.out.byt;rw [hmm] at this;exact bP this
 have HT:Hid (x4.there (w.heap.size+1) 0 (br m).size):=by rw [aM];exact aw S4.out.res 0 32 (by rw [aM];omega)
 have HQ:Hid (w.heap.size+2≤w1.heap.size):=S4.out.hq
 have HB:Hid (Below w.heap.size w x4):=S4.out.below
 go_wp2_with (first | (refine wpList_load_mid rfl 22 _ rfl w1.heap.size 0 rfl (br m).toList _ HC.out Tryz.underlying22 rfl (by rw [Array.length_toList,aM];kernel_rfl) ?_) | (refine wpList_store_mid rfl 22 _ _ rfl (w.heap.size+1) 0 (br m) rfl rfl HT.out (by rw [aM];kernel_rfl) (by exact iN _) ?_))
 refine bodyPost_ret (v := .agg (br m)) ?_ rfl ⟨rfl,?_⟩
 ·exact aN Tryz.results126 _ _ (w.heap.size+1) 0 (br m).toList _ rfl (World.rangeAt_setCells_same _ _ _ _ HT.out) Tryz.underlying22 rfl (by rw [Array.length_toList,aM];kernel_rfl)
 ·exact af _ (by omega) _ _ _ HB.out
end Go.Proofs.YtajehiidpecknaaGreatDoor
