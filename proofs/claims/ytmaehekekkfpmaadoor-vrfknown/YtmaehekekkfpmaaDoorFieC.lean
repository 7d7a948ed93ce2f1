/- Package field: mul. -/
import Derived.Test.YtmaehekekkfpmaaDoorFieB
set_option linter.unusedSimpArgs false
set_option linter.unusedVariables false
namespace Go.Proofs.YtmaehekekkfpmaaDoor
open Go Go.RowKit Go.Lib
theorem row_lt (S B x R t:Int) (hS:S<RR) (hB0:0≤B) (hB:B<RR) (hx:Word x) (he:R+t*RR=B*x):S+R+t*RR<RR*18446744073709551616:=by
 obtain ⟨h0,h1⟩:=hx
 have:B*x≤115792089237316195423570985008687907853269984665640564039457584007913129639935*18446744073709551615:=Int.mul_le_mul (by simp only [RR] at hB;omega) (by omega) h0 (by omega)
 simp only [RR] at *
 omega
theorem mul_num (A B a0 a1 a2 a3 l0 l1 l2 l3 H0 H1 H2 H3 r0 r1 r2 r3 t0 t1 t2 t3 R T n c s:Int)
  (hA:A=a0+a1*18446744073709551616+a2*340282366920938463463374607431768211456+a3*6277101735386680763835789423207666416102355444464034512896)
  (h0:r0+t0*RR=B*a0) (g0:l0+H0*18446744073709551616=r0+t0*RR)
  (h1:r1+t1*RR=B*a1) (g1:l1+H1*18446744073709551616=H0+r1+t1*RR)
  (h2:r2+t2*RR=B*a2) (g2:l2+H2*18446744073709551616=H1+r2+t2*RR)
  (h3:r3+t3*RR=B*a3) (g3:l3+H3*18446744073709551616=H2+r3+t3*RR)
  (h4:R+T*RR=H3*38) (h5:n+c*RR=l0+l1*18446744073709551616+l2*340282366920938463463374607431768211456+l3*6277101735386680763835789423207666416102355444464034512896+R)
  (h6:s % PP=(n+(T+c)*RR) % PP):s % PP=(A*B) % PP:=by
 have e:A*B=B*a0+(B*a1)*18446744073709551616+(B*a2)*340282366920938463463374607431768211456+(B*a3)*6277101735386680763835789423207666416102355444464034512896:=by
  rw [hA,Int.mul_comm]
  simp only [Int.mul_add,Int.mul_assoc]
 rw [h6,e,←h0,←h1,←h2,←h3]
 clear h6 e hA h0 h1 h2 h3
 simp only [RR,PP] at *
 omega
set_option maxHeartbeats 2000000 in
theorem mul_any (a b:Num) (ha:a.ok) (hb:b.ok) (w:World) :
  Calls Tryd.prog 64 #[a.v,b.v] w fun e w' => ∃ s:Num,e = .returned s.v∧s.ok∧s.val % PP=(a.val*b.val) % PP∧Below w.heap.size w w':=by
 obtain ⟨a0,a1,a2,a3⟩:=a
 obtain ⟨b0,b1,b2,b3⟩:=b
 simp only [Num.v] at *
 go_enter Tryd.func64,Tryd.ntmps64
 go_wp2_with fail
 refine (scale_any ⟨b0,b1,b2,b3⟩ a0 hb ha.1 _).mono ?_
 rintro e w1 ⟨⟨p0,p1,p2,p3⟩,t0,rfl,hp,ht0,ep,hb⟩
 simp only [Num.v]
 have HB1:Hid (Below w.heap.size w w1):=chain (w:=(((w.alloc (.cells #[.int .u64 a0,.int .u64 a1,.int .u64 a2,.int .u64 a3] 94)).alloc (.cells #[.int .u64 b0,.int .u64 b1,.int .u64 b2,.int .u64 b3] 94)).alloc (.cells #[.int .u64 0,.int .u64 0,.int .u64 0,.int .u64 0] 94))) (Below.alloc (Below.alloc (Below.alloc (Below.refl w.heap.size w) ((Below.refl w.heap.size w)).size _) ((Below.alloc (Below.refl w.heap.size w) ((Below.refl w.heap.size w)).size _)).size _) ((Below.alloc (Below.alloc (Below.refl w.heap.size w) ((Below.refl w.heap.size w)).size _) ((Below.alloc (Below.refl w.heap.size w) ((Below.refl w.heap.size w)).size _)).size _)).size _) hb
 have z1:w.heap.size+3≤w1.heap.size:=by have:=(show Below ((((w.alloc (.cells #[.int .u64 a0,.int .u64 a1,.int .u64 a2,.int .u64 a3] 94)).alloc (.cells #[.int .u64 b0,.int .u64 b1,.int .u64 b2,.int .u64 b3] 94)).alloc (.cells #[.int .u64 0,.int .u64 0,.int .u64 0,.int .u64 0] 94))).heap.size (((w.alloc (.cells #[.int .u64 a0,.int .u64 a1,.int .u64 a2,.int .u64 a3] 94)).alloc (.cells #[.int .u64 b0,.int .u64 b1,.int .u64 b2,.int .u64 b3] 94)).alloc (.cells #[.int .u64 0,.int .u64 0,.int .u64 0,.int .u64 0] 94)) w1 from hb).size;(try simp only [set4_size,World.size_alloc] at this);omega
 have B_a_1:w1.heap[w.heap.size]? = some (.cells #[.int .u64 a0,.int .u64 a1,.int .u64 a2,.int .u64 a3] 94):=keep' (w:=(((w.alloc (.cells #[.int .u64 a0,.int .u64 a1,.int .u64 a2,.int .u64 a3] 94)).alloc (.cells #[.int .u64 b0,.int .u64 b1,.int .u64 b2,.int .u64 b3] 94)).alloc (.cells #[.int .u64 0,.int .u64 0,.int .u64 0,.int .u64 0] 94))) hb ((heap_alloc_past _ _ _ (lt_of_heap ((heap_alloc_past _ _ _ (lt_of_heap (heap_alloc_here _ _ _ (by simp)))).trans (heap_alloc_here _ _ _ (by simp))))).trans ((heap_alloc_past _ _ _ (lt_of_heap (heap_alloc_here _ _ _ (by simp)))).trans (heap_alloc_here _ _ _ (by simp))))
 have B_b_1:w1.heap[w.heap.size+1]? = some (.cells #[.int .u64 b0,.int .u64 b1,.int .u64 b2,.int .u64 b3] 94):=keep' (w:=(((w.alloc (.cells #[.int .u64 a0,.int .u64 a1,.int .u64 a2,.int .u64 a3] 94)).alloc (.cells #[.int .u64 b0,.int .u64 b1,.int .u64 b2,.int .u64 b3] 94)).alloc (.cells #[.int .u64 0,.int .u64 0,.int .u64 0,.int .u64 0] 94))) hb ((heap_alloc_past _ _ _ (lt_of_heap (heap_alloc_here _ _ _ (by simp)))).trans (heap_alloc_here _ _ _ (by simp)))
 have B_r_1:w1.heap[w.heap.size+1+1]? = some (.cells #[.int .u64 0,.int .u64 0,.int .u64 0,.int .u64 0] 94):=keep' (w:=(((w.alloc (.cells #[.int .u64 a0,.int .u64 a1,.int .u64 a2,.int .u64 a3] 94)).alloc (.cells #[.int .u64 b0,.int .u64 b1,.int .u64 b2,.int .u64 b3] 94)).alloc (.cells #[.int .u64 0,.int .u64 0,.int .u64 0,.int .u64 0] 94))) hb (heap_alloc_here _ _ _ (by simp))
 clear hb
 have l_a_1:w.heap.size<w1.heap.size:=lt_of_heap B_a_1
 have l_b_1:w.heap.size+1<w1.heap.size:=lt_of_heap B_b_1
 have l_r_1:w.heap.size+1+1<w1.heap.size:=lt_of_heap B_r_1
 obtain ⟨c_a_1_0,c_a_1_1,c_a_1_2,c_a_1_3,f_a_1_0,f_a_1_1,f_a_1_2,f_a_1_3⟩:=four B_a_1
 obtain ⟨c_b_1_0,c_b_1_1,c_b_1_2,c_b_1_3,f_b_1_0,f_b_1_1,f_b_1_2,f_b_1_3⟩:=four B_b_1
 obtain ⟨c_r_1_0,c_r_1_1,c_r_1_2,c_r_1_3,f_r_1_0,f_r_1_1,f_r_1_2,f_r_1_3⟩:=four B_r_1
 go_wp2_with fail
 refine (shift_any ⟨p0,p1,p2,p3⟩ t0 _).mono ?_
 rintro e w2 ⟨rfl,hb⟩
 simp only [Num.v]
 have HB2:Hid (Below w.heap.size w w2):=chain (w:=(w1.alloc (.cells #[.int .u64 p0,.int .u64 p1,.int .u64 p2,.int .u64 p3] 94))) (Below.alloc HB1.out (HB1.out).size _) hb
 have z2:w1.heap.size+1≤w2.heap.size:=by have:=(show Below ((w1.alloc (.cells #[.int .u64 p0,.int .u64 p1,.int .u64 p2,.int .u64 p3] 94))).heap.size (w1.alloc (.cells #[.int .u64 p0,.int .u64 p1,.int .u64 p2,.int .u64 p3] 94)) w2 from hb).size;(try simp only [set4_size,World.size_alloc] at this);omega
 have B_a_2:w2.heap[w.heap.size]? = some (.cells #[.int .u64 a0,.int .u64 a1,.int .u64 a2,.int .u64 a3] 94):=keep' (w:=(w1.alloc (.cells #[.int .u64 p0,.int .u64 p1,.int .u64 p2,.int .u64 p3] 94))) hb ((heap_alloc_past _ _ _ (lt_of_heap B_a_1)).trans B_a_1)
 have B_b_2:w2.heap[w.heap.size+1]? = some (.cells #[.int .u64 b0,.int .u64 b1,.int .u64 b2,.int .u64 b3] 94):=keep' (w:=(w1.alloc (.cells #[.int .u64 p0,.int .u64 p1,.int .u64 p2,.int .u64 p3] 94))) hb ((heap_alloc_past _ _ _ (lt_of_heap B_b_1)).trans B_b_1)
 have B_r_2:w2.heap[w.heap.size+1+1]? = some (.cells #[.int .u64 0,.int .u64 0,.int .u64 0,.int .u64 0] 94):=keep' (w:=(w1.alloc (.cells #[.int .u64 p0,.int .u64 p1,.int .u64 p2,.int .u64 p3] 94))) hb ((heap_alloc_past _ _ _ (lt_of_heap B_r_1)).trans B_r_1)
 have B_row_2:w2.heap[w1.heap.size]? = some (.cells #[.int .u64 p0,.int .u64 p1,.int .u64 p2,.int .u64 p3] 94):=keep' (w:=(w1.alloc (.cells #[.int .u64 p0,.int .u64 p1,.int .u64 p2,.int .u64 p3] 94))) hb (heap_alloc_here _ _ _ (by simp))
 clear hb
 have l_a_2:w.heap.size<w2.heap.size:=lt_of_heap B_a_2
 have l_b_2:w.heap.size+1<w2.heap.size:=lt_of_heap B_b_2
 have l_r_2:w.heap.size+1+1<w2.heap.size:=lt_of_heap B_r_2
 have l_row_2:w1.heap.size<w2.heap.size:=lt_of_heap B_row_2
 obtain ⟨c_a_2_0,c_a_2_1,c_a_2_2,c_a_2_3,f_a_2_0,f_a_2_1,f_a_2_2,f_a_2_3⟩:=four B_a_2
 obtain ⟨c_b_2_0,c_b_2_1,c_b_2_2,c_b_2_3,f_b_2_0,f_b_2_1,f_b_2_2,f_b_2_3⟩:=four B_b_2
 obtain ⟨c_r_2_0,c_r_2_1,c_r_2_2,c_r_2_3,f_r_2_0,f_r_2_1,f_r_2_2,f_r_2_3⟩:=four B_r_2
 obtain ⟨c_row_2_0,c_row_2_1,c_row_2_2,c_row_2_3,f_row_2_0,f_row_2_1,f_row_2_2,f_row_2_3⟩:=four B_row_2
 have hh0:Num.ok ⟨p1,p2,p3,t0⟩:=⟨hp.2.1,hp.2.2.1,hp.2.2.2,ht0⟩
 have g0:p0+Num.val ⟨p1,p2,p3,t0⟩*18446744073709551616=Num.val ⟨p0,p1,p2,p3⟩+t0*RR:=by simp only [Num.val,RR];omega
 go_wp2_with fail
 refine (scale_any ⟨b0,b1,b2,b3⟩ a1 hb ha.2.1 _).mono ?_
 rintro e w3 ⟨⟨q0,q1,q2,q3⟩,t1,rfl,hq,ht1,eq,hb⟩
 simp only [Num.v]
 have HB3:Hid (Below w.heap.size w w3):=chain (w:=(w2.alloc (.cells #[.int .u64 p1,.int .u64 p2,.int .u64 p3,.int .u64 t0] 94))) (Below.alloc HB2.out (HB2.out).size _) hb
 have z3:w2.heap.size+1≤w3.heap.size:=by have:=(show Below ((w2.alloc (.cells #[.int .u64 p1,.int .u64 p2,.int .u64 p3,.int .u64 t0] 94))).heap.size (w2.alloc (.cells #[.int .u64 p1,.int .u64 p2,.int .u64 p3,.int .u64 t0] 94)) w3 from hb).size;(try simp only [set4_size,World.size_alloc] at this);omega
 have B_a_3:w3.heap[w.heap.size]? = some (.cells #[.int .u64 a0,.int .u64 a1,.int .u64 a2,.int .u64 a3] 94):=keep' (w:=(w2.alloc (.cells #[.int .u64 p1,.int .u64 p2,.int .u64 p3,.int .u64 t0] 94))) hb ((heap_alloc_past _ _ _ (lt_of_heap B_a_2)).trans B_a_2)
 have B_b_3:w3.heap[w.heap.size+1]? = some (.cells #[.int .u64 b0,.int .u64 b1,.int .u64 b2,.int .u64 b3] 94):=keep' (w:=(w2.alloc (.cells #[.int .u64 p1,.int .u64 p2,.int .u64 p3,.int .u64 t0] 94))) hb ((heap_alloc_past _ _ _ (lt_of_heap B_b_2)).trans B_b_2)
 have B_r_3:w3.heap[w.heap.size+1+1]? = some (.cells #[.int .u64 0,.int .u64 0,.int .u64 0,.int .u64 0] 94):=keep' (w:=(w2.alloc (.cells #[.int .u64 p1,.int .u64 p2,.int .u64 p3,.int .u64 t0] 94))) hb ((heap_alloc_past _ _ _ (lt_of_heap B_r_2)).trans B_r_2)
 have B_row_3:w3.heap[w1.heap.size]? = some (.cells #[.int .u64 p0,.int .u64 p1,.int .u64 p2,.int .u64 p3] 94):=keep' (w:=(w2.alloc (.cells #[.int .u64 p1,.int .u64 p2,.int .u64 p3,.int .u64 t0] 94))) hb ((heap_alloc_past _ _ _ (lt_of_heap B_row_2)).trans B_row_2)
 have B_hi_3:w3.heap[w2.heap.size]? = some (.cells #[.int .u64 p1,.int .u64 p2,.int .u64 p3,.int .u64 t0] 94):=keep' (w:=(w2.alloc (.cells #[.int .u64 p1,.int .u64 p2,.int .u64 p3,.int .u64 t0] 94))) hb (heap_alloc_here _ _ _ (by simp))
 clear hb
 have l_a_3:w.heap.size<w3.heap.size:=lt_of_heap B_a_3
 have l_b_3:w.heap.size+1<w3.heap.size:=lt_of_heap B_b_3
 have l_r_3:w.heap.size+1+1<w3.heap.size:=lt_of_heap B_r_3
 have l_row_3:w1.heap.size<w3.heap.size:=lt_of_heap B_row_3
 have l_hi_3:w2.heap.size<w3.heap.size:=lt_of_heap B_hi_3
 obtain ⟨c_a_3_0,c_a_3_1,c_a_3_2,c_a_3_3,f_a_3_0,f_a_3_1,f_a_3_2,f_a_3_3⟩:=four B_a_3
 obtain ⟨c_b_3_0,c_b_3_1,c_b_3_2,c_b_3_3,f_b_3_0,f_b_3_1,f_b_3_2,f_b_3_3⟩:=four B_b_3
 obtain ⟨c_r_3_0,c_r_3_1,c_r_3_2,c_r_3_3,f_r_3_0,f_r_3_1,f_r_3_2,f_r_3_3⟩:=four B_r_3
 obtain ⟨c_row_3_0,c_row_3_1,c_row_3_2,c_row_3_3,f_row_3_0,f_row_3_1,f_row_3_2,f_row_3_3⟩:=four B_row_3
 obtain ⟨c_hi_3_0,c_hi_3_1,c_hi_3_2,c_hi_3_3,f_hi_3_0,f_hi_3_1,f_hi_3_2,f_hi_3_3⟩:=four B_hi_3
 have n_r_row : ¬ w.heap.size+1+1=w1.heap.size:=by omega
 have n_row_r : ¬ w1.heap.size=w.heap.size+1+1:=by omega
 have n_r_hi : ¬ w.heap.size+1+1=w2.heap.size:=by omega
 have n_hi_r : ¬ w2.heap.size=w.heap.size+1+1:=by omega
 have n_row_hi : ¬ w1.heap.size=w2.heap.size:=by omega
 have n_hi_row : ¬ w2.heap.size=w1.heap.size:=by omega
 have n_b_row : ¬ w.heap.size+1=w1.heap.size:=by omega
 have n_row_b : ¬ w1.heap.size=w.heap.size+1:=by omega
 have n_b_hi : ¬ w.heap.size+1=w2.heap.size:=by omega
 have n_hi_b : ¬ w2.heap.size=w.heap.size+1:=by omega
 have n_a_row : ¬ w.heap.size=w1.heap.size:=by omega
 have n_row_a : ¬ w1.heap.size=w.heap.size:=by omega
 have n_a_hi : ¬ w.heap.size=w2.heap.size:=by omega
 have n_hi_a : ¬ w2.heap.size=w.heap.size:=by omega
 go_wp2_with fail
 refine (nextRow_any ⟨p1,p2,p3,t0⟩ ⟨q0,q1,q2,q3⟩ t1 hh0 hq ht1.1 (row_lt _ _ _ _ _ (Num.bound hh0).2 (Num.bound hb).1 (Num.bound hb).2 ha.2.1 eq) _).mono ?_
 rintro e w4 ⟨l1,⟨u0,u1,u2,u3⟩,rfl,hl1,hu,eu,hb⟩
 simp only [Num.v]
 have HB4:Hid (Below w.heap.size w w4):=chain (w:=(set4 w3 (w1.heap.size) (.int .u64 q0) (.int .u64 q1) (.int .u64 q2) (.int .u64 q3))) (below_set4 HB3.out (by omega) _ _ _ _) hb
 have z4:w3.heap.size+0≤w4.heap.size:=by have:=(show Below ((set4 w3 (w1.heap.size) (.int .u64 q0) (.int .u64 q1) (.int .u64 q2) (.int .u64 q3))).heap.size (set4 w3 (w1.heap.size) (.int .u64 q0) (.int .u64 q1) (.int .u64 q2) (.int .u64 q3)) w4 from hb).size;(try simp only [set4_size,World.size_alloc] at this);omega
 have B_a_4:w4.heap[w.heap.size]? = some (.cells #[.int .u64 a0,.int .u64 a1,.int .u64 a2,.int .u64 a3] 94):=keep' (w:=(set4 w3 (w1.heap.size) (.int .u64 q0) (.int .u64 q1) (.int .u64 q2) (.int .u64 q3))) hb ((set4_past _ _ _ _ _ _ _ (by omega)).trans B_a_3)
 have B_b_4:w4.heap[w.heap.size+1]? = some (.cells #[.int .u64 b0,.int .u64 b1,.int .u64 b2,.int .u64 b3] 94):=keep' (w:=(set4 w3 (w1.heap.size) (.int .u64 q0) (.int .u64 q1) (.int .u64 q2) (.int .u64 q3))) hb ((set4_past _ _ _ _ _ _ _ (by omega)).trans B_b_3)
 have B_r_4:w4.heap[w.heap.size+1+1]? = some (.cells #[.int .u64 0,.int .u64 0,.int .u64 0,.int .u64 0] 94):=keep' (w:=(set4 w3 (w1.heap.size) (.int .u64 q0) (.int .u64 q1) (.int .u64 q2) (.int .u64 q3))) hb ((set4_past _ _ _ _ _ _ _ (by omega)).trans B_r_3)
 have B_row_4:w4.heap[w1.heap.size]? = some (.cells #[.int .u64 q0,.int .u64 q1,.int .u64 q2,.int .u64 q3] 94):=keep' (w:=(set4 w3 (w1.heap.size) (.int .u64 q0) (.int .u64 q1) (.int .u64 q2) (.int .u64 q3))) hb (set4_here _ _ _ _ B_row_3)
 have B_hi_4:w4.heap[w2.heap.size]? = some (.cells #[.int .u64 p1,.int .u64 p2,.int .u64 p3,.int .u64 t0] 94):=keep' (w:=(set4 w3 (w1.heap.size) (.int .u64 q0) (.int .u64 q1) (.int .u64 q2) (.int .u64 q3))) hb ((set4_past _ _ _ _ _ _ _ (by omega)).trans B_hi_3)
 clear hb
 have l_a_4:w.heap.size<w4.heap.size:=lt_of_heap B_a_4
 have l_b_4:w.heap.size+1<w4.heap.size:=lt_of_heap B_b_4
 have l_r_4:w.heap.size+1+1<w4.heap.size:=lt_of_heap B_r_4
 have l_row_4:w1.heap.size<w4.heap.size:=lt_of_heap B_row_4
 have l_hi_4:w2.heap.size<w4.heap.size:=lt_of_heap B_hi_4
 obtain ⟨c_a_4_0,c_a_4_1,c_a_4_2,c_a_4_3,f_a_4_0,f_a_4_1,f_a_4_2,f_a_4_3⟩:=four B_a_4
 obtain ⟨c_b_4_0,c_b_4_1,c_b_4_2,c_b_4_3,f_b_4_0,f_b_4_1,f_b_4_2,f_b_4_3⟩:=four B_b_4
 obtain ⟨c_r_4_0,c_r_4_1,c_r_4_2,c_r_4_3,f_r_4_0,f_r_4_1,f_r_4_2,f_r_4_3⟩:=four B_r_4
 obtain ⟨c_row_4_0,c_row_4_1,c_row_4_2,c_row_4_3,f_row_4_0,f_row_4_1,f_row_4_2,f_row_4_3⟩:=four B_row_4
 obtain ⟨c_hi_4_0,c_hi_4_1,c_hi_4_2,c_hi_4_3,f_hi_4_0,f_hi_4_1,f_hi_4_2,f_hi_4_3⟩:=four B_hi_4
 go_wp2_with fail
 refine (scale_any ⟨b0,b1,b2,b3⟩ a2 hb ha.2.2.1 _).mono ?_
 rintro e w5 ⟨⟨x0,x1,x2,x3⟩,t2,rfl,hx,ht2,ex,hb⟩
 simp only [Num.v]
 have HB5:Hid (Below w.heap.size w w5):=chain (w:=(set4 w4 (w2.heap.size) (.int .u64 u0) (.int .u64 u1) (.int .u64 u2) (.int .u64 u3))) (below_set4 HB4.out (by omega) _ _ _ _) hb
 have z5:w4.heap.size+0≤w5.heap.size:=by have:=(show Below ((set4 w4 (w2.heap.size) (.int .u64 u0) (.int .u64 u1) (.int .u64 u2) (.int .u64 u3))).heap.size (set4 w4 (w2.heap.size) (.int .u64 u0) (.int .u64 u1) (.int .u64 u2) (.int .u64 u3)) w5 from hb).size;(try simp only [set4_size,World.size_alloc] at this);omega
 have B_a_5:w5.heap[w.heap.size]? = some (.cells #[.int .u64 a0,.int .u64 a1,.int .u64 a2,.int .u64 a3] 94):=keep' (w:=(set4 w4 (w2.heap.size) (.int .u64 u0) (.int .u64 u1) (.int .u64 u2) (.int .u64 u3))) hb ((set4_past _ _ _ _ _ _ _ (by omega)).trans B_a_4)
 have B_b_5:w5.heap[w.heap.size+1]? = some (.cells #[.int .u64 b0,.int .u64 b1,.int .u64 b2,.int .u64 b3] 94):=keep' (w:=(set4 w4 (w2.heap.size) (.int .u64 u0) (.int .u64 u1) (.int .u64 u2) (.int .u64 u3))) hb ((set4_past _ _ _ _ _ _ _ (by omega)).trans B_b_4)
 have B_r_5:w5.heap[w.heap.size+1+1]? = some (.cells #[.int .u64 0,.int .u64 0,.int .u64 0,.int .u64 0] 94):=keep' (w:=(set4 w4 (w2.heap.size) (.int .u64 u0) (.int .u64 u1) (.int .u64 u2) (.int .u64 u3))) hb ((set4_past _ _ _ _ _ _ _ (by omega)).trans B_r_4)
 have B_row_5:w5.heap[w1.heap.size]? = some (.cells #[.int .u64 q0,.int .u64 q1,.int .u64 q2,.int .u64 q3] 94):=keep' (w:=(set4 w4 (w2.heap.size) (.int .u64 u0) (.int .u64 u1) (.int .u64 u2) (.int .u64 u3))) hb ((set4_past _ _ _ _ _ _ _ (by omega)).trans B_row_4)
 have B_hi_5:w5.heap[w2.heap.size]? = some (.cells #[.int .u64 u0,.int .u64 u1,.int .u64 u2,.int .u64 u3] 94):=keep' (w:=(set4 w4 (w2.heap.size) (.int .u64 u0) (.int .u64 u1) (.int .u64 u2) (.int .u64 u3))) hb (set4_here _ _ _ _ B_hi_4)
 clear hb
 have l_a_5:w.heap.size<w5.heap.size:=lt_of_heap B_a_5
 have l_b_5:w.heap.size+1<w5.heap.size:=lt_of_heap B_b_5
 have l_r_5:w.heap.size+1+1<w5.heap.size:=lt_of_heap B_r_5
 have l_row_5:w1.heap.size<w5.heap.size:=lt_of_heap B_row_5
 have l_hi_5:w2.heap.size<w5.heap.size:=lt_of_heap B_hi_5
 obtain ⟨c_a_5_0,c_a_5_1,c_a_5_2,c_a_5_3,f_a_5_0,f_a_5_1,f_a_5_2,f_a_5_3⟩:=four B_a_5
 obtain ⟨c_b_5_0,c_b_5_1,c_b_5_2,c_b_5_3,f_b_5_0,f_b_5_1,f_b_5_2,f_b_5_3⟩:=four B_b_5
 obtain ⟨c_r_5_0,c_r_5_1,c_r_5_2,c_r_5_3,f_r_5_0,f_r_5_1,f_r_5_2,f_r_5_3⟩:=four B_r_5
 obtain ⟨c_row_5_0,c_row_5_1,c_row_5_2,c_row_5_3,f_row_5_0,f_row_5_1,f_row_5_2,f_row_5_3⟩:=four B_row_5
 obtain ⟨c_hi_5_0,c_hi_5_1,c_hi_5_2,c_hi_5_3,f_hi_5_0,f_hi_5_1,f_hi_5_2,f_hi_5_3⟩:=four B_hi_5
 go_wp2_with fail
 refine (nextRow_any ⟨u0,u1,u2,u3⟩ ⟨x0,x1,x2,x3⟩ t2 hu hx ht2.1 (row_lt _ _ _ _ _ (Num.bound hu).2 (Num.bound hb).1 (Num.bound hb).2 ha.2.2.1 ex) _).mono ?_
 rintro e w6 ⟨l2,⟨v0,v1,v2,v3⟩,rfl,hl2,hv,ev,hb⟩
 simp only [Num.v]
 have HB6:Hid (Below w.heap.size w w6):=chain (w:=(set4 w5 (w1.heap.size) (.int .u64 x0) (.int .u64 x1) (.int .u64 x2) (.int .u64 x3))) (below_set4 HB5.out (by omega) _ _ _ _) hb
 have z6:w5.heap.size+0≤w6.heap.size:=by have:=(show Below ((set4 w5 (w1.heap.size) (.int .u64 x0) (.int .u64 x1) (.int .u64 x2) (.int .u64 x3))).heap.size (set4 w5 (w1.heap.size) (.int .u64 x0) (.int .u64 x1) (.int .u64 x2) (.int .u64 x3)) w6 from hb).size;(try simp only [set4_size,World.size_alloc] at this);omega
 have B_a_6:w6.heap[w.heap.size]? = some (.cells #[.int .u64 a0,.int .u64 a1,.int .u64 a2,.int .u64 a3] 94):=keep' (w:=(set4 w5 (w1.heap.size) (.int .u64 x0) (.int .u64 x1) (.int .u64 x2) (.int .u64 x3))) hb ((set4_past _ _ _ _ _ _ _ (by omega)).trans B_a_5)
 have B_b_6:w6.heap[w.heap.size+1]? = some (.cells #[.int .u64 b0,.int .u64 b1,.int .u64 b2,.int .u64 b3] 94):=keep' (w:=(set4 w5 (w1.heap.size) (.int .u64 x0) (.int .u64 x1) (.int .u64 x2) (.int .u64 x3))) hb ((set4_past _ _ _ _ _ _ _ (by omega)).trans B_b_5)
 have B_r_6:w6.heap[w.heap.size+1+1]? = some (.cells #[.int .u64 0,.int .u64 0,.int .u64 0,.int .u64 0] 94):=keep' (w:=(set4 w5 (w1.heap.size) (.int .u64 x0) (.int .u64 x1) (.int .u64 x2) (.int .u64 x3))) hb ((set4_past _ _ _ _ _ _ _ (by omega)).trans B_r_5)
 have B_row_6:w6.heap[w1.heap.size]? = some (.cells #[.int .u64 x0,.int .u64 x1,.int .u64 x2,.int .u64 x3] 94):=keep' (w:=(set4 w5 (w1.heap.size) (.int .u64 x0) (.int .u64 x1) (.int .u64 x2) (.int .u64 x3))) hb (set4_here _ _ _ _ B_row_5)
 have B_hi_6:w6.heap[w2.heap.size]? = some (.cells #[.int .u64 u0,.int .u64 u1,.int .u64 u2,.int .u64 u3] 94):=keep' (w:=(set4 w5 (w1.heap.size) (.int .u64 x0) (.int .u64 x1) (.int .u64 x2) (.int .u64 x3))) hb ((set4_past _ _ _ _ _ _ _ (by omega)).trans B_hi_5)
 clear hb
 have l_a_6:w.heap.size<w6.heap.size:=lt_of_heap B_a_6
 have l_b_6:w.heap.size+1<w6.heap.size:=lt_of_heap B_b_6
 have l_r_6:w.heap.size+1+1<w6.heap.size:=lt_of_heap B_r_6
 have l_row_6:w1.heap.size<w6.heap.size:=lt_of_heap B_row_6
 have l_hi_6:w2.heap.size<w6.heap.size:=lt_of_heap B_hi_6
 obtain ⟨c_a_6_0,c_a_6_1,c_a_6_2,c_a_6_3,f_a_6_0,f_a_6_1,f_a_6_2,f_a_6_3⟩:=four B_a_6
 obtain ⟨c_b_6_0,c_b_6_1,c_b_6_2,c_b_6_3,f_b_6_0,f_b_6_1,f_b_6_2,f_b_6_3⟩:=four B_b_6
 obtain ⟨c_r_6_0,c_r_6_1,c_r_6_2,c_r_6_3,f_r_6_0,f_r_6_1,f_r_6_2,f_r_6_3⟩:=four B_r_6
 obtain ⟨c_row_6_0,c_row_6_1,c_row_6_2,c_row_6_3,f_row_6_0,f_row_6_1,f_row_6_2,f_row_6_3⟩:=four B_row_6
 obtain ⟨c_hi_6_0,c_hi_6_1,c_hi_6_2,c_hi_6_3,f_hi_6_0,f_hi_6_1,f_hi_6_2,f_hi_6_3⟩:=four B_hi_6
 go_wp2_with fail
 refine (scale_any ⟨b0,b1,b2,b3⟩ a3 hb ha.2.2.2 _).mono ?_
 rintro e w7 ⟨⟨y0,y1,y2,y3⟩,t3,rfl,hy,ht3,ey,hb⟩
 simp only [Num.v]
 have HB7:Hid (Below w.heap.size w w7):=chain (w:=(set4 w6 (w2.heap.size) (.int .u64 v0) (.int .u64 v1) (.int .u64 v2) (.int .u64 v3))) (below_set4 HB6.out (by omega) _ _ _ _) hb
 have z7:w6.heap.size+0≤w7.heap.size:=by have:=(show Below ((set4 w6 (w2.heap.size) (.int .u64 v0) (.int .u64 v1) (.int .u64 v2) (.int .u64 v3))).heap.size (set4 w6 (w2.heap.size) (.int .u64 v0) (.int .u64 v1) (.int .u64 v2) (.int .u64 v3)) w7 from hb).size;(try simp only [set4_size,World.size_alloc] at this);omega
 have B_r_7:w7.heap[w.heap.size+1+1]? = some (.cells #[.int .u64 0,.int .u64 0,.int .u64 0,.int .u64 0] 94):=keep' (w:=(set4 w6 (w2.heap.size) (.int .u64 v0) (.int .u64 v1) (.int .u64 v2) (.int .u64 v3))) hb ((set4_past _ _ _ _ _ _ _ (by omega)).trans B_r_6)
 have B_row_7:w7.heap[w1.heap.size]? = some (.cells #[.int .u64 x0,.int .u64 x1,.int .u64 x2,.int .u64 x3] 94):=keep' (w:=(set4 w6 (w2.heap.size) (.int .u64 v0) (.int .u64 v1) (.int .u64 v2) (.int .u64 v3))) hb ((set4_past _ _ _ _ _ _ _ (by omega)).trans B_row_6)
 have B_hi_7:w7.heap[w2.heap.size]? = some (.cells #[.int .u64 v0,.int .u64 v1,.int .u64 v2,.int .u64 v3] 94):=keep' (w:=(set4 w6 (w2.heap.size) (.int .u64 v0) (.int .u64 v1) (.int .u64 v2) (.int .u64 v3))) hb (set4_here _ _ _ _ B_hi_6)
 clear hb
 have l_r_7:w.heap.size+1+1<w7.heap.size:=lt_of_heap B_r_7
 have l_row_7:w1.heap.size<w7.heap.size:=lt_of_heap B_row_7
 have l_hi_7:w2.heap.size<w7.heap.size:=lt_of_heap B_hi_7
 obtain ⟨c_r_7_0,c_r_7_1,c_r_7_2,c_r_7_3,f_r_7_0,f_r_7_1,f_r_7_2,f_r_7_3⟩:=four B_r_7
 obtain ⟨c_row_7_0,c_row_7_1,c_row_7_2,c_row_7_3,f_row_7_0,f_row_7_1,f_row_7_2,f_row_7_3⟩:=four B_row_7
 obtain ⟨c_hi_7_0,c_hi_7_1,c_hi_7_2,c_hi_7_3,f_hi_7_0,f_hi_7_1,f_hi_7_2,f_hi_7_3⟩:=four B_hi_7
 go_wp2_with fail
 refine (nextRow_any ⟨v0,v1,v2,v3⟩ ⟨y0,y1,y2,y3⟩ t3 hv hy ht3.1 (row_lt _ _ _ _ _ (Num.bound hv).2 (Num.bound hb).1 (Num.bound hb).2 ha.2.2.2 ey) _).mono ?_
 rintro e w8 ⟨l3,⟨m0,m1,m2,m3⟩,rfl,hl3,hm,em,hb⟩
 simp only [Num.v]
 have HB8:Hid (Below w.heap.size w w8):=chain (w:=(set4 w7 (w1.heap.size) (.int .u64 y0) (.int .u64 y1) (.int .u64 y2) (.int .u64 y3))) (below_set4 HB7.out (by omega) _ _ _ _) hb
 have z8:w7.heap.size+0≤w8.heap.size:=by have:=(show Below ((set4 w7 (w1.heap.size) (.int .u64 y0) (.int .u64 y1) (.int .u64 y2) (.int .u64 y3))).heap.size (set4 w7 (w1.heap.size) (.int .u64 y0) (.int .u64 y1) (.int .u64 y2) (.int .u64 y3)) w8 from hb).size;(try simp only [set4_size,World.size_alloc] at this);omega
 have B_r_8:w8.heap[w.heap.size+1+1]? = some (.cells #[.int .u64 0,.int .u64 0,.int .u64 0,.int .u64 0] 94):=keep' (w:=(set4 w7 (w1.heap.size) (.int .u64 y0) (.int .u64 y1) (.int .u64 y2) (.int .u64 y3))) hb ((set4_past _ _ _ _ _ _ _ (by omega)).trans B_r_7)
 have B_row_8:w8.heap[w1.heap.size]? = some (.cells #[.int .u64 y0,.int .u64 y1,.int .u64 y2,.int .u64 y3] 94):=keep' (w:=(set4 w7 (w1.heap.size) (.int .u64 y0) (.int .u64 y1) (.int .u64 y2) (.int .u64 y3))) hb (set4_here _ _ _ _ B_row_7)
 have B_hi_8:w8.heap[w2.heap.size]? = some (.cells #[.int .u64 v0,.int .u64 v1,.int .u64 v2,.int .u64 v3] 94):=keep' (w:=(set4 w7 (w1.heap.size) (.int .u64 y0) (.int .u64 y1) (.int .u64 y2) (.int .u64 y3))) hb ((set4_past _ _ _ _ _ _ _ (by omega)).trans B_hi_7)
 clear hb
 have l_r_8:w.heap.size+1+1<w8.heap.size:=lt_of_heap B_r_8
 have l_row_8:w1.heap.size<w8.heap.size:=lt_of_heap B_row_8
 have l_hi_8:w2.heap.size<w8.heap.size:=lt_of_heap B_hi_8
 obtain ⟨c_r_8_0,c_r_8_1,c_r_8_2,c_r_8_3,f_r_8_0,f_r_8_1,f_r_8_2,f_r_8_3⟩:=four B_r_8
 obtain ⟨c_row_8_0,c_row_8_1,c_row_8_2,c_row_8_3,f_row_8_0,f_row_8_1,f_row_8_2,f_row_8_3⟩:=four B_row_8
 obtain ⟨c_hi_8_0,c_hi_8_1,c_hi_8_2,c_hi_8_3,f_hi_8_0,f_hi_8_1,f_hi_8_2,f_hi_8_3⟩:=four B_hi_8
 go_wp2_with fail
 refine (scale_any ⟨m0,m1,m2,m3⟩ 38 hm ⟨by decide,by decide⟩ _).mono ?_
 rintro e w9 ⟨⟨k0,k1,k2,k3⟩,t4,rfl,hz,ht4,ez,hb⟩
 simp only [Num.v]
 have HB9:Hid (Below w.heap.size w w9):=chain (w:=(set4 w8 (w2.heap.size) (.int .u64 m0) (.int .u64 m1) (.int .u64 m2) (.int .u64 m3))) (below_set4 HB8.out (by omega) _ _ _ _) hb
 have z9:w8.heap.size+0≤w9.heap.size:=by have:=(show Below ((set4 w8 (w2.heap.size) (.int .u64 m0) (.int .u64 m1) (.int .u64 m2) (.int .u64 m3))).heap.size (set4 w8 (w2.heap.size) (.int .u64 m0) (.int .u64 m1) (.int .u64 m2) (.int .u64 m3)) w9 from hb).size;(try simp only [set4_size,World.size_alloc] at this);omega
 have B_r_9:w9.heap[w.heap.size+1+1]? = some (.cells #[.int .u64 0,.int .u64 0,.int .u64 0,.int .u64 0] 94):=keep' (w:=(set4 w8 (w2.heap.size) (.int .u64 m0) (.int .u64 m1) (.int .u64 m2) (.int .u64 m3))) hb ((set4_past _ _ _ _ _ _ _ (by omega)).trans B_r_8)
 have B_row_9:w9.heap[w1.heap.size]? = some (.cells #[.int .u64 y0,.int .u64 y1,.int .u64 y2,.int .u64 y3] 94):=keep' (w:=(set4 w8 (w2.heap.size) (.int .u64 m0) (.int .u64 m1) (.int .u64 m2) (.int .u64 m3))) hb ((set4_past _ _ _ _ _ _ _ (by omega)).trans B_row_8)
 clear hb
 have l_r_9:w.heap.size+1+1<w9.heap.size:=lt_of_heap B_r_9
 have l_row_9:w1.heap.size<w9.heap.size:=lt_of_heap B_row_9
 obtain ⟨c_r_9_0,c_r_9_1,c_r_9_2,c_r_9_3,f_r_9_0,f_r_9_1,f_r_9_2,f_r_9_3⟩:=four B_r_9
 obtain ⟨c_row_9_0,c_row_9_1,c_row_9_2,c_row_9_3,f_row_9_0,f_row_9_1,f_row_9_2,f_row_9_3⟩:=four B_row_9
 go_wp2_with fail
 refine (plus_any ⟨p0,l1,l2,l3⟩ ⟨k0,k1,k2,k3⟩ ⟨hp.1,hl1,hl2,hl3⟩ hz _).mono ?_
 rintro e w10 ⟨⟨d0,d1,d2,d3⟩,c,rfl,hd,c0,c1,ed,hb⟩
 simp only [Num.v]
 have HB10:Hid (Below w.heap.size w w10):=chain (w:=(set4 w9 (w1.heap.size) (.int .u64 k0) (.int .u64 k1) (.int .u64 k2) (.int .u64 k3))) (below_set4 HB9.out (by omega) _ _ _ _) hb
 have z10:w9.heap.size+0≤w10.heap.size:=by have:=(show Below ((set4 w9 (w1.heap.size) (.int .u64 k0) (.int .u64 k1) (.int .u64 k2) (.int .u64 k3))).heap.size (set4 w9 (w1.heap.size) (.int .u64 k0) (.int .u64 k1) (.int .u64 k2) (.int .u64 k3)) w10 from hb).size;(try simp only [set4_size,World.size_alloc] at this);omega
 have B_r_10:w10.heap[w.heap.size+1+1]? = some (.cells #[.int .u64 0,.int .u64 0,.int .u64 0,.int .u64 0] 94):=keep' (w:=(set4 w9 (w1.heap.size) (.int .u64 k0) (.int .u64 k1) (.int .u64 k2) (.int .u64 k3))) hb ((set4_past _ _ _ _ _ _ _ (by omega)).trans B_r_9)
 clear hb
 have l_r_10:w.heap.size+1+1<w10.heap.size:=lt_of_heap B_r_10
 obtain ⟨c_r_10_0,c_r_10_1,c_r_10_2,c_r_10_3,f_r_10_0,f_r_10_1,f_r_10_2,f_r_10_3⟩:=four B_r_10
 have ht5:0≤t4+c∧t4+c≤38:=by have h1:=Num.bound hm;have h2:=Num.bound hz;have h3:=ht4.1;simp only [RR] at *;omega
 have hw1:IntKind.u64.wrap (t4+c)=t4+c:=by rw [IntKind.wrap_u64];omega
 go_wp2_with fail
 refine (fold_any ⟨d0,d1,d2,d3⟩ (t4+c) hd ht5 _).mono ?_
 rintro e w11 ⟨⟨s0,s1,s2,s3⟩,rfl,hs,es,hb⟩
 simp only [Num.v]
 have HB11:Hid (Below w.heap.size w w11):=chain (w:=(w10.alloc (.cells #[.int .u64 d0,.int .u64 d1,.int .u64 d2,.int .u64 d3] 94))) (Below.alloc HB10.out (HB10.out).size _) hb
 have z11:w10.heap.size+1≤w11.heap.size:=by have:=(show Below ((w10.alloc (.cells #[.int .u64 d0,.int .u64 d1,.int .u64 d2,.int .u64 d3] 94))).heap.size (w10.alloc (.cells #[.int .u64 d0,.int .u64 d1,.int .u64 d2,.int .u64 d3] 94)) w11 from hb).size;(try simp only [set4_size,World.size_alloc] at this);omega
 have B_r_11:w11.heap[w.heap.size+1+1]? = some (.cells #[.int .u64 0,.int .u64 0,.int .u64 0,.int .u64 0] 94):=keep' (w:=(w10.alloc (.cells #[.int .u64 d0,.int .u64 d1,.int .u64 d2,.int .u64 d3] 94))) hb ((heap_alloc_past _ _ _ (lt_of_heap B_r_10)).trans B_r_10)
 clear hb
 have l_r_11:w.heap.size+1+1<w11.heap.size:=lt_of_heap B_r_11
 obtain ⟨c_r_11_0,c_r_11_1,c_r_11_2,c_r_11_3,f_r_11_0,f_r_11_1,f_r_11_2,f_r_11_3⟩:=four B_r_11
 go_wp2
 refine bodyPost_ret (v := .agg #[.int .u64 s0,.int .u64 s1,.int .u64 s2,.int .u64 s3]) (results_mid Tryd.results64 _ _ (w.heap.size+1+1) 0 [.int .u64 s0,.int .u64 s1,.int .u64 s2,.int .u64 s3] _ rfl (range4 (w:=(set4 w11 (w.heap.size+1+1) (.int .u64 s0) (.int .u64 s1) (.int .u64 s2) (.int .u64 s3))) (t:=94) (set4_here _ _ _ _ B_r_11)) Tryd.underlying94 rfl (by kernel_rfl)) rfl ⟨⟨s0,s1,s2,s3⟩,rfl,hs,?_,(below_set4 HB11.out (by omega) _ _ _ _)⟩
 exact mul_num _ _ a0 a1 a2 a3 p0 l1 l2 l3 _ _ _ _ _ _ _ _ t0 t1 t2 t3 _ t4 _ c _ rfl ep g0 eq eu ex ev ey em ez ed es
end Go.Proofs.YtmaehekekkfpmaaDoor
