/- Package field: fold, add, sub, settle. -/
import Derived.Test.YtmaehekekkfpmaaDoorFieA
set_option linter.unusedSimpArgs false
set_option linter.unusedVariables false
namespace Go.Proofs.YtmaehekekkfpmaaDoor
open Go Go.RowKit Go.Lib
theorem andnot63 (x:Int) (hx:Word x):bits .andNot .u64 x 9223372036854775808=x % 9223372036854775808:=by
  obtain ⟨h0,h1⟩:=hx
  obtain ⟨n,rfl⟩:=Int.eq_ofNat_of_zero_le h0
  have hn:n<18446744073709551616:=by omega
  show IntKind.u64.wrap ((BitVec.ofInt 64 (n:Int) &&& ~~~ BitVec.ofInt 64 9223372036854775808).toNat:Int)=_
  rw [BitVec.toNat_and,show (~~~ BitVec.ofInt 64 9223372036854775808).toNat=2 ^ 63 - 1 from by decide,Nat.and_two_pow_sub_one_eq_mod,BitVec.ofInt_natCast,BitVec.toNat_ofNat,IntKind.wrap_u64]
  omega
theorem four {w:World} {b:Nat} {x0 x1 x2 x3:Value} {t:TypeId} (h:w.heap[b]? = some (.cells #[x0,x1,x2,x3] t (0,0))) :
    w.cell? ⟨b,0,none⟩=some x0∧w.cell? ⟨b,1,none⟩=some x1∧w.cell? ⟨b,2,none⟩=some x2∧w.cell? ⟨b,3,none⟩=some x3 ∧
    w.frozen? ⟨b,0,none⟩=false∧w.frozen? ⟨b,1,none⟩=false∧w.frozen? ⟨b,2,none⟩=false∧w.frozen? ⟨b,3,none⟩=false :=
  ⟨by rw [cell_of_row w b 0 _ t _ h];rfl,by rw [cell_of_row w b 1 _ t _ h];rfl,by rw [cell_of_row w b 2 _ t _ h];rfl,by rw [cell_of_row w b 3 _ t _ h];rfl,
   frozen_of_row _ _ _ _ _ h,frozen_of_row _ _ _ _ _ h,frozen_of_row _ _ _ _ _ h,frozen_of_row _ _ _ _ _ h⟩
abbrev PP:Int:=57896044618658097711785492504343953926634992332820282019728792003956564819949
theorem settle_num (A h S c T d N:Int) (hA0:0≤A) (hA:A<57896044618658097711785492504343953926634992332820282019728792003956564819968) (hh:h=0∨h=1) (hS:0≤S∧S<RR) (hT:0≤T∧T<RR) (c0:0≤c) (c1:c≤1) (d0:0≤d) (d1:d≤1)
    (he:S+c*RR=A+19*h) (hf:T+d*RR=S+19) (hN:N=A+h*57896044618658097711785492504343953926634992332820282019728792003956564819968) :
    (57896044618658097711785492504343953926634992332820282019728792003956564819968≤T→T - 57896044618658097711785492504343953926634992332820282019728792003956564819968=N % PP)∧(T<57896044618658097711785492504343953926634992332820282019728792003956564819968→S=N % PP):=by
  simp only [RR,PP] at *
  have hc:c=0:=by rcases hh with rfl | rfl <;> omega
  have hd:d=0:=by rcases hh with rfl | rfl <;> omega
  subst hc;subst hd
  rcases hh with rfl | rfl
  · constructor <;> intro h <;> omega
  · constructor <;> intro h <;> omega
theorem keep {B:Nat} {w w':World} (h:Below B w w') {b:Nat} (hb:b<B) {o:Obj} (hc:w.heap[b]? = some o):w'.heap[b]? = some o:=(h.block b hb).trans hc
theorem heap_alloc_here (w:World) (o:Obj) (b:Nat) (h:b=w.heap.size):(w.alloc o).heap[b]? = some o:=by subst h;exact heap_alloc_new _ _
theorem heap_alloc_past (w:World) (o:Obj) (b:Nat) (h:b<w.heap.size):(w.alloc o).heap[b]? = w.heap[b]? := by
  show (w.heap.push o)[b]? = _;rw [Array.getElem?_push,if_neg (by omega)]
def set4 (w:World) (b:Nat) (y0 y1 y2 y3:Value):World:=(((w.setCell ⟨b,0,none⟩ y0).setCell ⟨b,1,none⟩ y1).setCell ⟨b,2,none⟩ y2).setCell ⟨b,3,none⟩ y3
theorem set4_eq (w:World) (b:Nat) (y0 y1 y2 y3:Value):(((w.setCell ⟨b,0,none⟩ y0).setCell ⟨b,1,none⟩ y1).setCell ⟨b,2,none⟩ y2).setCell ⟨b,3,none⟩ y3=set4 w b y0 y1 y2 y3:=rfl
theorem set4_size (w:World) (b:Nat) (y0 y1 y2 y3:Value):(set4 w b y0 y1 y2 y3).heap.size=w.heap.size:=by simp [set4,World.setCell]
theorem set4_here {w:World} {b:Nat} {x0 x1 x2 x3:Value} {t:TypeId} (y0 y1 y2 y3:Value) (h:w.heap[b]? = some (.cells #[x0,x1,x2,x3] t (0,0))):(set4 w b y0 y1 y2 y3).heap[b]? = some (.cells #[y0,y1,y2,y3] t (0,0)):=by
  simp [set4,World.setCell,Array.getElem?_modify,h]
theorem set4_past (w:World) (b c:Nat) (y0 y1 y2 y3:Value) (h:c≠b):(set4 w b y0 y1 y2 y3).heap[c]? = w.heap[c]? := by
  simp [set4,World.setCell,Array.getElem?_modify,Ne.symm h]
theorem below_set4 {B:Nat} {a w:World} (h:Below B a w) {b:Nat} (hb:B≤b) (y0 y1 y2 y3:Value):Below B a (set4 w b y0 y1 y2 y3) :=
  (((h.setCell hb y0).setCell hb y1).setCell hb y2).setCell hb y3
theorem lt_of_heap {w:World} {b:Nat} {o:Obj} (h:w.heap[b]? = some o):b<w.heap.size:=(Array.getElem?_eq_some_iff.1 h).1
theorem keep' {w w':World} (h:Below w.heap.size w w') {b:Nat} {o:Obj} (hc:w.heap[b]? = some o):w'.heap[b]? = some o:=keep h (lt_of_heap hc) hc
theorem chain {a w w':World} (h:Below a.heap.size a w) (hb:Below w.heap.size w w'):Below a.heap.size a w':=h.trans (hb.mono h.size)
theorem ok1 {x:Int} (h0:0≤x) (h1:x<18446744073709551616):Num.ok ⟨x,0,0,0⟩:=⟨⟨h0,h1⟩,⟨by simp only;omega,by simp only;omega⟩,⟨by simp only;omega,by simp only;omega⟩,⟨by simp only;omega,by simp only;omega⟩⟩
theorem results_mid {P:Program} {fn:Func} {p:Tmp} {ty:TypeId} (h:fn.results = #[.cell p ty]) (tmps:Array Value) (w:World) (b o:Nat) (cs:List Value) (d:TypeDesc)
    (hp:tmps.getD p undef = .pointer (some ⟨b,o,none⟩)) (hc:w.rangeAt b o cs) (hu:P.underlying ty=some d) (hd:d.isRow=true) (hi:(P.info? ty).map (·.size)=some cs.length) :
    (results fn tmps).run P w = .ok (.agg cs.toArray) w:=by
  have hp':tmps[p]?.getD undef = .pointer (some ⟨b,o,none⟩):=by simpa using hp
  simp [results,h,hp',asAddr,run_loadVar_mid w b o ty cs d hc hu hd hi]
theorem results_mid_tmp {P:Program} {fn:Func} {p q:Tmp} {ty:TypeId} (h:fn.results = #[.cell p ty,.tmp q]) (tmps:Array Value) (w:World) (b o:Nat) (cs:List Value) (d:TypeDesc) (x:Value)
    (hp:tmps.getD p undef = .pointer (some ⟨b,o,none⟩)) (hq:tmps.getD q undef=x) (hc:w.rangeAt b o cs) (hu:P.underlying ty=some d) (hd:d.isRow=true) (hi:(P.info? ty).map (·.size)=some cs.length) :
    (results fn tmps).run P w = .ok (.tuple #[.agg cs.toArray,x]) w:=by
  have hp':tmps[p]?.getD undef = .pointer (some ⟨b,o,none⟩):=by simpa using hp
  have hq':tmps[q]?.getD undef=x:=by simpa using hq
  simp [results,h,hp',hq',asAddr,run_loadVar_mid w b o ty cs d hc hu hd hi]
theorem results_tmp_mid {P:Program} {fn:Func} {p q:Tmp} {ty:TypeId} (h:fn.results = #[.tmp q,.cell p ty]) (tmps:Array Value) (w:World) (b o:Nat) (cs:List Value) (d:TypeDesc) (x:Value)
    (hp:tmps.getD p undef = .pointer (some ⟨b,o,none⟩)) (hq:tmps.getD q undef=x) (hc:w.rangeAt b o cs) (hu:P.underlying ty=some d) (hd:d.isRow=true) (hi:(P.info? ty).map (·.size)=some cs.length) :
    (results fn tmps).run P w = .ok (.tuple #[x,.agg cs.toArray]) w:=by
  have hp':tmps[p]?.getD undef = .pointer (some ⟨b,o,none⟩):=by simpa using hp
  have hq':tmps[q]?.getD undef=x:=by simpa using hq
  simp [results,h,hp',hq',asAddr,run_loadVar_mid w b o ty cs d hc hu hd hi]
theorem range4 {w:World} {b:Nat} {x0 x1 x2 x3:Value} {t:TypeId} (h:w.heap[b]? = some (.cells #[x0,x1,x2,x3] t (0,0))):w.rangeAt b 0 [x0,x1,x2,x3]:=fun j v hv=>by
  rw [Nat.zero_add,cell_of_row w b j _ t _ h]
  simpa using hv
set_option maxHeartbeats 400000 in
theorem fold_any (n:Num) (o:Int) (hn:n.ok) (ho:0≤o∧o≤38) (w:World) :
    Calls Tryd.prog 84 #[n.v,.int .u64 o] w fun e w' => ∃ s:Num,e = .returned s.v∧s.ok∧s.val % PP=(n.val+o*RR) % PP∧Below w.heap.size w w':=by
  obtain ⟨n0,n1,n2,n3⟩:=n
  have hw1:IntKind.u64.wrap (o*38)=o*38:=by rw [IntKind.wrap_u64];omega
  simp only [Num.v] at *
  go_enter Tryd.func84,Tryd.ntmps84
  go_wp2_with fail
  refine (plus_any ⟨n0,n1,n2,n3⟩ ⟨o*38,0,0,0⟩ hn (ok1 (by omega) (by omega)) _).mono ?_
  rintro e w1 ⟨⟨s0,s1,s2,s3⟩,c,rfl,hs,c0,c1,he,hb⟩
  simp only [Num.v]
  have HB1:Hid (Below w.heap.size w w1):=chain (w:=((w.alloc (.cells #[.int .u64 n0,.int .u64 n1,.int .u64 n2,.int .u64 n3] 94)).alloc (.cells #[.int .u64 0,.int .u64 0,.int .u64 0,.int .u64 0] 94))) (Below.alloc (Below.alloc (Below.refl w.heap.size w) ((Below.refl w.heap.size w)).size _) ((Below.alloc (Below.refl w.heap.size w) ((Below.refl w.heap.size w)).size _)).size _) hb
  have z1:w.heap.size+2≤w1.heap.size:=by have:=(show Below (((w.alloc (.cells #[.int .u64 n0,.int .u64 n1,.int .u64 n2,.int .u64 n3] 94)).alloc (.cells #[.int .u64 0,.int .u64 0,.int .u64 0,.int .u64 0] 94))).heap.size ((w.alloc (.cells #[.int .u64 n0,.int .u64 n1,.int .u64 n2,.int .u64 n3] 94)).alloc (.cells #[.int .u64 0,.int .u64 0,.int .u64 0,.int .u64 0] 94)) w1 from hb).size;(try simp only [set4_size,World.size_alloc] at this);omega
  have B_n_1:w1.heap[w.heap.size]? = some (.cells #[.int .u64 n0,.int .u64 n1,.int .u64 n2,.int .u64 n3] 94):=keep' (w:=((w.alloc (.cells #[.int .u64 n0,.int .u64 n1,.int .u64 n2,.int .u64 n3] 94)).alloc (.cells #[.int .u64 0,.int .u64 0,.int .u64 0,.int .u64 0] 94))) hb ((heap_alloc_past _ _ _ (lt_of_heap (heap_alloc_here _ _ _ (by simp)))).trans (heap_alloc_here _ _ _ (by simp)))
  have B_r_1:w1.heap[w.heap.size+1]? = some (.cells #[.int .u64 0,.int .u64 0,.int .u64 0,.int .u64 0] 94):=keep' (w:=((w.alloc (.cells #[.int .u64 n0,.int .u64 n1,.int .u64 n2,.int .u64 n3] 94)).alloc (.cells #[.int .u64 0,.int .u64 0,.int .u64 0,.int .u64 0] 94))) hb (heap_alloc_here _ _ _ (by simp))
  clear hb
  have l_n_1:w.heap.size<w1.heap.size:=lt_of_heap B_n_1
  have l_r_1:w.heap.size+1<w1.heap.size:=lt_of_heap B_r_1
  obtain ⟨c_n_1_0,c_n_1_1,c_n_1_2,c_n_1_3,f_n_1_0,f_n_1_1,f_n_1_2,f_n_1_3⟩:=four B_n_1
  obtain ⟨c_r_1_0,c_r_1_1,c_r_1_2,c_r_1_3,f_r_1_0,f_r_1_1,f_r_1_2,f_r_1_3⟩:=four B_r_1
  have hw2:IntKind.u64.wrap (c*38)=c*38:=by rw [IntKind.wrap_u64];omega
  go_wp2_with fail
  refine (plus_any ⟨s0,s1,s2,s3⟩ ⟨c*38,0,0,0⟩ hs (ok1 (by omega) (by omega)) _).mono ?_
  rintro e w2 ⟨⟨t0,t1,t2,t3⟩,d,rfl,ht,d0,d1,hf,hb⟩
  simp only [Num.v]
  have HB2:Hid (Below w.heap.size w w2):=chain (w:=(set4 w1 (w.heap.size) (.int .u64 s0) (.int .u64 s1) (.int .u64 s2) (.int .u64 s3))) (below_set4 HB1.out (by omega) _ _ _ _) hb
  have z2:w1.heap.size+0≤w2.heap.size:=by have:=(show Below ((set4 w1 (w.heap.size) (.int .u64 s0) (.int .u64 s1) (.int .u64 s2) (.int .u64 s3))).heap.size (set4 w1 (w.heap.size) (.int .u64 s0) (.int .u64 s1) (.int .u64 s2) (.int .u64 s3)) w2 from hb).size;(try simp only [set4_size,World.size_alloc] at this);omega
  have B_n_2:w2.heap[w.heap.size]? = some (.cells #[.int .u64 s0,.int .u64 s1,.int .u64 s2,.int .u64 s3] 94):=keep' (w:=(set4 w1 (w.heap.size) (.int .u64 s0) (.int .u64 s1) (.int .u64 s2) (.int .u64 s3))) hb (set4_here _ _ _ _ B_n_1)
  have B_r_2:w2.heap[w.heap.size+1]? = some (.cells #[.int .u64 0,.int .u64 0,.int .u64 0,.int .u64 0] 94):=keep' (w:=(set4 w1 (w.heap.size) (.int .u64 s0) (.int .u64 s1) (.int .u64 s2) (.int .u64 s3))) hb ((set4_past _ _ _ _ _ _ _ (by omega)).trans B_r_1)
  clear hb
  have l_n_2:w.heap.size<w2.heap.size:=lt_of_heap B_n_2
  have l_r_2:w.heap.size+1<w2.heap.size:=lt_of_heap B_r_2
  obtain ⟨c_n_2_0,c_n_2_1,c_n_2_2,c_n_2_3,f_n_2_0,f_n_2_1,f_n_2_2,f_n_2_3⟩:=four B_n_2
  obtain ⟨c_r_2_0,c_r_2_1,c_r_2_2,c_r_2_3,f_r_2_0,f_r_2_1,f_r_2_2,f_r_2_3⟩:=four B_r_2
  go_wp2
  refine bodyPost_ret (v := .agg #[.int .u64 t0,.int .u64 t1,.int .u64 t2,.int .u64 t3]) (results_mid Tryd.results84 _ _ (w.heap.size+1) 0 [.int .u64 t0,.int .u64 t1,.int .u64 t2,.int .u64 t3] _ rfl (range4 (w:=(set4 (set4 w2 (w.heap.size) (.int .u64 t0) (.int .u64 t1) (.int .u64 t2) (.int .u64 t3)) (w.heap.size+1) (.int .u64 t0) (.int .u64 t1) (.int .u64 t2) (.int .u64 t3))) (t:=94) (set4_here _ _ _ _ ((set4_past _ _ _ _ _ _ _ (by omega)).trans B_r_2))) Tryd.underlying94 rfl (by kernel_rfl)) rfl ⟨⟨t0,t1,t2,t3⟩,rfl,ht,?_,(below_set4 (below_set4 HB2.out (by omega) _ _ _ _) (by omega) _ _ _ _)⟩
  obtain ⟨v0,v1⟩:=Num.bound hn
  obtain ⟨v2,v3⟩:=Num.bound hs
  obtain ⟨v4,v5⟩:=Num.bound ht
  generalize Num.val ⟨t0,t1,t2,t3⟩=T at *
  generalize Num.val ⟨s0,s1,s2,s3⟩=S at *
  generalize Num.val ⟨n0,n1,n2,n3⟩=N at *
  simp only [Num.val,RR,PP] at *
  have:d=0:=by omega
  subst this
  omega
set_option maxHeartbeats 400000 in
theorem add_any (a b:Num) (ha:a.ok) (hb:b.ok) (w:World) :
    Calls Tryd.prog 75 #[a.v,b.v] w fun e w' => ∃ s:Num,e = .returned s.v∧s.ok∧s.val % PP=(a.val+b.val) % PP∧Below w.heap.size w w':=by
  obtain ⟨a0,a1,a2,a3⟩:=a
  obtain ⟨b0,b1,b2,b3⟩:=b
  simp only [Num.v] at *
  go_enter Tryd.func75,Tryd.ntmps75
  go_wp2_with fail
  refine (plus_any ⟨a0,a1,a2,a3⟩ ⟨b0,b1,b2,b3⟩ ha hb _).mono ?_
  rintro e w1 ⟨⟨s0,s1,s2,s3⟩,c,rfl,hs,c0,c1,he,hb⟩
  simp only [Num.v]
  have HB1:Hid (Below w.heap.size w w1):=chain (w:=(((w.alloc (.cells #[.int .u64 a0,.int .u64 a1,.int .u64 a2,.int .u64 a3] 94)).alloc (.cells #[.int .u64 b0,.int .u64 b1,.int .u64 b2,.int .u64 b3] 94)).alloc (.cells #[.int .u64 0,.int .u64 0,.int .u64 0,.int .u64 0] 94))) (Below.alloc (Below.alloc (Below.alloc (Below.refl w.heap.size w) ((Below.refl w.heap.size w)).size _) ((Below.alloc (Below.refl w.heap.size w) ((Below.refl w.heap.size w)).size _)).size _) ((Below.alloc (Below.alloc (Below.refl w.heap.size w) ((Below.refl w.heap.size w)).size _) ((Below.alloc (Below.refl w.heap.size w) ((Below.refl w.heap.size w)).size _)).size _)).size _) hb
  have z1:w.heap.size+3≤w1.heap.size:=by have:=(show Below ((((w.alloc (.cells #[.int .u64 a0,.int .u64 a1,.int .u64 a2,.int .u64 a3] 94)).alloc (.cells #[.int .u64 b0,.int .u64 b1,.int .u64 b2,.int .u64 b3] 94)).alloc (.cells #[.int .u64 0,.int .u64 0,.int .u64 0,.int .u64 0] 94))).heap.size (((w.alloc (.cells #[.int .u64 a0,.int .u64 a1,.int .u64 a2,.int .u64 a3] 94)).alloc (.cells #[.int .u64 b0,.int .u64 b1,.int .u64 b2,.int .u64 b3] 94)).alloc (.cells #[.int .u64 0,.int .u64 0,.int .u64 0,.int .u64 0] 94)) w1 from hb).size;(try simp only [set4_size,World.size_alloc] at this);omega
  have B_r_1:w1.heap[w.heap.size+1+1]? = some (.cells #[.int .u64 0,.int .u64 0,.int .u64 0,.int .u64 0] 94):=keep' (w:=(((w.alloc (.cells #[.int .u64 a0,.int .u64 a1,.int .u64 a2,.int .u64 a3] 94)).alloc (.cells #[.int .u64 b0,.int .u64 b1,.int .u64 b2,.int .u64 b3] 94)).alloc (.cells #[.int .u64 0,.int .u64 0,.int .u64 0,.int .u64 0] 94))) hb (heap_alloc_here _ _ _ (by simp))
  clear hb
  have l_r_1:w.heap.size+1+1<w1.heap.size:=lt_of_heap B_r_1
  obtain ⟨c_r_1_0,c_r_1_1,c_r_1_2,c_r_1_3,f_r_1_0,f_r_1_1,f_r_1_2,f_r_1_3⟩:=four B_r_1
  go_wp2_with fail
  refine (fold_any ⟨s0,s1,s2,s3⟩ c hs (by omega) _).mono ?_
  rintro e w2 ⟨⟨t0,t1,t2,t3⟩,rfl,ht,hf,hb⟩
  simp only [Num.v]
  have HB2:Hid (Below w.heap.size w w2):=chain (w:=w1) HB1.out hb
  have z2:w1.heap.size+0≤w2.heap.size:=by have:=(show Below (w1).heap.size w1 w2 from hb).size;(try simp only [set4_size,World.size_alloc] at this);omega
  have B_r_2:w2.heap[w.heap.size+1+1]? = some (.cells #[.int .u64 0,.int .u64 0,.int .u64 0,.int .u64 0] 94):=keep' (w:=w1) hb B_r_1
  clear hb
  have l_r_2:w.heap.size+1+1<w2.heap.size:=lt_of_heap B_r_2
  obtain ⟨c_r_2_0,c_r_2_1,c_r_2_2,c_r_2_3,f_r_2_0,f_r_2_1,f_r_2_2,f_r_2_3⟩:=four B_r_2
  go_wp2
  refine bodyPost_ret (v := .agg #[.int .u64 t0,.int .u64 t1,.int .u64 t2,.int .u64 t3]) (results_mid Tryd.results75 _ _ (w.heap.size+1+1) 0 [.int .u64 t0,.int .u64 t1,.int .u64 t2,.int .u64 t3] _ rfl (range4 (w:=(set4 w2 (w.heap.size+1+1) (.int .u64 t0) (.int .u64 t1) (.int .u64 t2) (.int .u64 t3))) (t:=94) (set4_here _ _ _ _ B_r_2)) Tryd.underlying94 rfl (by kernel_rfl)) rfl ⟨⟨t0,t1,t2,t3⟩,rfl,ht,?_,(below_set4 HB2.out (by omega) _ _ _ _)⟩
  rw [hf,he]
set_option maxHeartbeats 400000 in
theorem sub_any (a b:Num) (ha:a.ok) (hb:b.ok) (w:World) :
    Calls Tryd.prog 74 #[a.v,b.v] w fun e w' => ∃ s:Num,e = .returned s.v∧s.ok∧s.val % PP=(a.val - b.val) % PP∧Below w.heap.size w w':=by
  obtain ⟨a0,a1,a2,a3⟩:=a
  obtain ⟨b0,b1,b2,b3⟩:=b
  simp only [Num.v] at *
  go_enter Tryd.func74,Tryd.ntmps74
  go_wp2_with fail
  refine (minus_any ⟨a0,a1,a2,a3⟩ ⟨b0,b1,b2,b3⟩ ha hb _).mono ?_
  rintro e w1 ⟨⟨s0,s1,s2,s3⟩,c,rfl,hs,c0,c1,he,hb⟩
  simp only [Num.v]
  have HB1:Hid (Below w.heap.size w w1):=chain (w:=(((w.alloc (.cells #[.int .u64 a0,.int .u64 a1,.int .u64 a2,.int .u64 a3] 94)).alloc (.cells #[.int .u64 b0,.int .u64 b1,.int .u64 b2,.int .u64 b3] 94)).alloc (.cells #[.int .u64 0,.int .u64 0,.int .u64 0,.int .u64 0] 94))) (Below.alloc (Below.alloc (Below.alloc (Below.refl w.heap.size w) ((Below.refl w.heap.size w)).size _) ((Below.alloc (Below.refl w.heap.size w) ((Below.refl w.heap.size w)).size _)).size _) ((Below.alloc (Below.alloc (Below.refl w.heap.size w) ((Below.refl w.heap.size w)).size _) ((Below.alloc (Below.refl w.heap.size w) ((Below.refl w.heap.size w)).size _)).size _)).size _) hb
  have z1:w.heap.size+3≤w1.heap.size:=by have:=(show Below ((((w.alloc (.cells #[.int .u64 a0,.int .u64 a1,.int .u64 a2,.int .u64 a3] 94)).alloc (.cells #[.int .u64 b0,.int .u64 b1,.int .u64 b2,.int .u64 b3] 94)).alloc (.cells #[.int .u64 0,.int .u64 0,.int .u64 0,.int .u64 0] 94))).heap.size (((w.alloc (.cells #[.int .u64 a0,.int .u64 a1,.int .u64 a2,.int .u64 a3] 94)).alloc (.cells #[.int .u64 b0,.int .u64 b1,.int .u64 b2,.int .u64 b3] 94)).alloc (.cells #[.int .u64 0,.int .u64 0,.int .u64 0,.int .u64 0] 94)) w1 from hb).size;(try simp only [set4_size,World.size_alloc] at this);omega
  have B_r_1:w1.heap[w.heap.size+1+1]? = some (.cells #[.int .u64 0,.int .u64 0,.int .u64 0,.int .u64 0] 94):=keep' (w:=(((w.alloc (.cells #[.int .u64 a0,.int .u64 a1,.int .u64 a2,.int .u64 a3] 94)).alloc (.cells #[.int .u64 b0,.int .u64 b1,.int .u64 b2,.int .u64 b3] 94)).alloc (.cells #[.int .u64 0,.int .u64 0,.int .u64 0,.int .u64 0] 94))) hb (heap_alloc_here _ _ _ (by simp))
  clear hb
  have l_r_1:w.heap.size+1+1<w1.heap.size:=lt_of_heap B_r_1
  obtain ⟨c_r_1_0,c_r_1_1,c_r_1_2,c_r_1_3,f_r_1_0,f_r_1_1,f_r_1_2,f_r_1_3⟩:=four B_r_1
  have hw1:IntKind.u64.wrap (c*38)=c*38:=by rw [IntKind.wrap_u64];omega
  go_wp2_with fail
  refine (minus_any ⟨s0,s1,s2,s3⟩ ⟨c*38,0,0,0⟩ hs (ok1 (by omega) (by omega)) _).mono ?_
  rintro e w2 ⟨⟨t0,t1,t2,t3⟩,d,rfl,ht,d0,d1,hf,hb⟩
  simp only [Num.v]
  have HB2:Hid (Below w.heap.size w w2):=chain (w:=(w1.alloc (.cells #[.int .u64 s0,.int .u64 s1,.int .u64 s2,.int .u64 s3] 94))) (Below.alloc HB1.out (HB1.out).size _) hb
  have z2:w1.heap.size+1≤w2.heap.size:=by have:=(show Below ((w1.alloc (.cells #[.int .u64 s0,.int .u64 s1,.int .u64 s2,.int .u64 s3] 94))).heap.size (w1.alloc (.cells #[.int .u64 s0,.int .u64 s1,.int .u64 s2,.int .u64 s3] 94)) w2 from hb).size;(try simp only [set4_size,World.size_alloc] at this);omega
  have B_r_2:w2.heap[w.heap.size+1+1]? = some (.cells #[.int .u64 0,.int .u64 0,.int .u64 0,.int .u64 0] 94):=keep' (w:=(w1.alloc (.cells #[.int .u64 s0,.int .u64 s1,.int .u64 s2,.int .u64 s3] 94))) hb ((heap_alloc_past _ _ _ (lt_of_heap B_r_1)).trans B_r_1)
  have B_n_2:w2.heap[w1.heap.size]? = some (.cells #[.int .u64 s0,.int .u64 s1,.int .u64 s2,.int .u64 s3] 94):=keep' (w:=(w1.alloc (.cells #[.int .u64 s0,.int .u64 s1,.int .u64 s2,.int .u64 s3] 94))) hb (heap_alloc_here _ _ _ (by simp))
  clear hb
  have l_r_2:w.heap.size+1+1<w2.heap.size:=lt_of_heap B_r_2
  have l_n_2:w1.heap.size<w2.heap.size:=lt_of_heap B_n_2
  obtain ⟨c_r_2_0,c_r_2_1,c_r_2_2,c_r_2_3,f_r_2_0,f_r_2_1,f_r_2_2,f_r_2_3⟩:=four B_r_2
  obtain ⟨c_n_2_0,c_n_2_1,c_n_2_2,c_n_2_3,f_n_2_0,f_n_2_1,f_n_2_2,f_n_2_3⟩:=four B_n_2
  have hw2:IntKind.u64.wrap (d*38)=d*38:=by rw [IntKind.wrap_u64];omega
  have ne1 : ¬ w.heap.size+1+1=w1.heap.size:=by omega
  have ne2 : ¬ w1.heap.size=w.heap.size+1+1:=by omega
  go_wp2_with fail
  refine (minus_any ⟨t0,t1,t2,t3⟩ ⟨d*38,0,0,0⟩ ht (ok1 (by omega) (by omega)) _).mono ?_
  rintro e w3 ⟨⟨u0,u1,u2,u3⟩,f,rfl,hu,f0,f1,hg,hb⟩
  simp only [Num.v]
  have HB3:Hid (Below w.heap.size w w3):=chain (w:=(set4 w2 (w1.heap.size) (.int .u64 t0) (.int .u64 t1) (.int .u64 t2) (.int .u64 t3))) (below_set4 HB2.out (by omega) _ _ _ _) hb
  have z3:w2.heap.size+0≤w3.heap.size:=by have:=(show Below ((set4 w2 (w1.heap.size) (.int .u64 t0) (.int .u64 t1) (.int .u64 t2) (.int .u64 t3))).heap.size (set4 w2 (w1.heap.size) (.int .u64 t0) (.int .u64 t1) (.int .u64 t2) (.int .u64 t3)) w3 from hb).size;(try simp only [set4_size,World.size_alloc] at this);omega
  have B_r_3:w3.heap[w.heap.size+1+1]? = some (.cells #[.int .u64 0,.int .u64 0,.int .u64 0,.int .u64 0] 94):=keep' (w:=(set4 w2 (w1.heap.size) (.int .u64 t0) (.int .u64 t1) (.int .u64 t2) (.int .u64 t3))) hb ((set4_past _ _ _ _ _ _ _ (by omega)).trans B_r_2)
  have B_n_3:w3.heap[w1.heap.size]? = some (.cells #[.int .u64 t0,.int .u64 t1,.int .u64 t2,.int .u64 t3] 94):=keep' (w:=(set4 w2 (w1.heap.size) (.int .u64 t0) (.int .u64 t1) (.int .u64 t2) (.int .u64 t3))) hb (set4_here _ _ _ _ B_n_2)
  clear hb
  have l_r_3:w.heap.size+1+1<w3.heap.size:=lt_of_heap B_r_3
  have l_n_3:w1.heap.size<w3.heap.size:=lt_of_heap B_n_3
  obtain ⟨c_r_3_0,c_r_3_1,c_r_3_2,c_r_3_3,f_r_3_0,f_r_3_1,f_r_3_2,f_r_3_3⟩:=four B_r_3
  obtain ⟨c_n_3_0,c_n_3_1,c_n_3_2,c_n_3_3,f_n_3_0,f_n_3_1,f_n_3_2,f_n_3_3⟩:=four B_n_3
  go_wp2
  refine bodyPost_ret (v := .agg #[.int .u64 u0,.int .u64 u1,.int .u64 u2,.int .u64 u3]) (results_mid Tryd.results74 _ _ (w.heap.size+1+1) 0 [.int .u64 u0,.int .u64 u1,.int .u64 u2,.int .u64 u3] _ rfl (range4 (w:=(set4 (set4 w3 (w1.heap.size) (.int .u64 u0) (.int .u64 u1) (.int .u64 u2) (.int .u64 u3)) (w.heap.size+1+1) (.int .u64 u0) (.int .u64 u1) (.int .u64 u2) (.int .u64 u3))) (t:=94) (set4_here _ _ _ _ ((set4_past _ _ _ _ _ _ _ (by omega)).trans B_r_3))) Tryd.underlying94 rfl (by kernel_rfl)) rfl ⟨⟨u0,u1,u2,u3⟩,rfl,hu,?_,(below_set4 (below_set4 HB3.out (by omega) _ _ _ _) (by omega) _ _ _ _)⟩
  obtain ⟨v0,v1⟩:=Num.bound ha
  obtain ⟨v2,v3⟩:=Num.bound hb
  obtain ⟨v4,v5⟩:=Num.bound hs
  obtain ⟨v6,v7⟩:=Num.bound ht
  obtain ⟨v8,v9⟩:=Num.bound hu
  generalize Num.val ⟨u0,u1,u2,u3⟩=U at *
  generalize Num.val ⟨t0,t1,t2,t3⟩=T at *
  generalize Num.val ⟨s0,s1,s2,s3⟩=S at *
  generalize Num.val ⟨a0,a1,a2,a3⟩=A at *
  generalize Num.val ⟨b0,b1,b2,b3⟩=B at *
  simp only [Num.val,RR,PP] at *
  have:f=0:=by omega
  subst this
  omega
set_option maxHeartbeats 400000 in
theorem shift_any (n:Num) (t:Int) (w:World) :
    Calls Tryd.prog 81 #[n.v,.int .u64 t] w fun e w'=>e = .returned (.tuple #[.int .u64 n.w0,(Num.mk n.w1 n.w2 n.w3 t).v])∧Below w.heap.size w w':=by
  obtain ⟨n0,n1,n2,n3⟩:=n
  simp only [Num.v] at *
  go_enter Tryd.func81,Tryd.ntmps81
  go_wp2
  go_region_held3 (fun w'=>w'.cell? ⟨w.heap.size,0,none⟩=some (.int .u64 n0)∧w'.cell? ⟨w.heap.size,1,none⟩=some (.int .u64 n1)∧w'.cell? ⟨w.heap.size,2,none⟩=some (.int .u64 n2)∧w'.cell? ⟨w.heap.size,3,none⟩=some (.int .u64 n3)) (simp [go_sem,World.cell?_alloc_past]) (fail)
  go_wp2
  simp [bodyPost,results,Tryd.results81,go_sem]
  exact (((Below.refl _ _).alloc (Nat.le_refl _) _).alloc (by simp) _).drew
set_option maxHeartbeats 400000 in
theorem nextRow_any (a b:Num) (t:Int) (ha:a.ok) (hb:b.ok) (ht:0≤t) (hlt:a.val+b.val+t*RR<RR*18446744073709551616) (w:World) :
    Calls Tryd.prog 82 #[a.v,b.v,.int .u64 t] w fun e w' => ∃ (l:Int) (s:Num),e = .returned (.tuple #[.int .u64 l,s.v])∧Word l∧s.ok∧l+s.val*18446744073709551616=a.val+b.val+t*RR∧Below w.heap.size w w':=by
  obtain ⟨a0,a1,a2,a3⟩:=a
  obtain ⟨b0,b1,b2,b3⟩:=b
  simp only [Num.v] at *
  go_enter Tryd.func82,Tryd.ntmps82
  go_wp2_with fail
  refine (plus_any ⟨a0,a1,a2,a3⟩ ⟨b0,b1,b2,b3⟩ ha hb _).mono ?_
  rintro e w1 ⟨⟨s0,s1,s2,s3⟩,c,rfl,hs,c0,c1,he,hb⟩
  simp only [Num.v]
  have HB1:Hid (Below w.heap.size w w1):=chain (w:=(((w.alloc (.cells #[.int .u64 a0,.int .u64 a1,.int .u64 a2,.int .u64 a3] 94)).alloc (.cells #[.int .u64 b0,.int .u64 b1,.int .u64 b2,.int .u64 b3] 94)).alloc (.cells #[.int .u64 0,.int .u64 0,.int .u64 0,.int .u64 0] 94))) (Below.alloc (Below.alloc (Below.alloc (Below.refl w.heap.size w) ((Below.refl w.heap.size w)).size _) ((Below.alloc (Below.refl w.heap.size w) ((Below.refl w.heap.size w)).size _)).size _) ((Below.alloc (Below.alloc (Below.refl w.heap.size w) ((Below.refl w.heap.size w)).size _) ((Below.alloc (Below.refl w.heap.size w) ((Below.refl w.heap.size w)).size _)).size _)).size _) hb
  have z1:w.heap.size+3≤w1.heap.size:=by have:=(show Below ((((w.alloc (.cells #[.int .u64 a0,.int .u64 a1,.int .u64 a2,.int .u64 a3] 94)).alloc (.cells #[.int .u64 b0,.int .u64 b1,.int .u64 b2,.int .u64 b3] 94)).alloc (.cells #[.int .u64 0,.int .u64 0,.int .u64 0,.int .u64 0] 94))).heap.size (((w.alloc (.cells #[.int .u64 a0,.int .u64 a1,.int .u64 a2,.int .u64 a3] 94)).alloc (.cells #[.int .u64 b0,.int .u64 b1,.int .u64 b2,.int .u64 b3] 94)).alloc (.cells #[.int .u64 0,.int .u64 0,.int .u64 0,.int .u64 0] 94)) w1 from hb).size;(try simp only [set4_size,World.size_alloc] at this);omega
  have B_a_1:w1.heap[w.heap.size]? = some (.cells #[.int .u64 a0,.int .u64 a1,.int .u64 a2,.int .u64 a3] 94):=keep' (w:=(((w.alloc (.cells #[.int .u64 a0,.int .u64 a1,.int .u64 a2,.int .u64 a3] 94)).alloc (.cells #[.int .u64 b0,.int .u64 b1,.int .u64 b2,.int .u64 b3] 94)).alloc (.cells #[.int .u64 0,.int .u64 0,.int .u64 0,.int .u64 0] 94))) hb ((heap_alloc_past _ _ _ (lt_of_heap ((heap_alloc_past _ _ _ (lt_of_heap (heap_alloc_here _ _ _ (by simp)))).trans (heap_alloc_here _ _ _ (by simp))))).trans ((heap_alloc_past _ _ _ (lt_of_heap (heap_alloc_here _ _ _ (by simp)))).trans (heap_alloc_here _ _ _ (by simp))))
  have B_r_1:w1.heap[w.heap.size+1+1]? = some (.cells #[.int .u64 0,.int .u64 0,.int .u64 0,.int .u64 0] 94):=keep' (w:=(((w.alloc (.cells #[.int .u64 a0,.int .u64 a1,.int .u64 a2,.int .u64 a3] 94)).alloc (.cells #[.int .u64 b0,.int .u64 b1,.int .u64 b2,.int .u64 b3] 94)).alloc (.cells #[.int .u64 0,.int .u64 0,.int .u64 0,.int .u64 0] 94))) hb (heap_alloc_here _ _ _ (by simp))
  clear hb
  have l_a_1:w.heap.size<w1.heap.size:=lt_of_heap B_a_1
  have l_r_1:w.heap.size+1+1<w1.heap.size:=lt_of_heap B_r_1
  obtain ⟨c_a_1_0,c_a_1_1,c_a_1_2,c_a_1_3,f_a_1_0,f_a_1_1,f_a_1_2,f_a_1_3⟩:=four B_a_1
  obtain ⟨c_r_1_0,c_r_1_1,c_r_1_2,c_r_1_3,f_r_1_0,f_r_1_1,f_r_1_2,f_r_1_3⟩:=four B_r_1
  obtain ⟨y0,y1⟩:=Num.bound hs
  have ht1:t+c<18446744073709551616:=by
    have e2:=he
    generalize Num.val ⟨s0,s1,s2,s3⟩=S at *
    generalize Num.val ⟨a0,a1,a2,a3⟩=A at *
    generalize Num.val ⟨b0,b1,b2,b3⟩=B at *
    simp only [RR] at *
    omega
  have hw1:IntKind.u64.wrap (t+c)=t+c:=by rw [IntKind.wrap_u64];omega
  go_wp2_with fail
  refine (shift_any ⟨s0,s1,s2,s3⟩ (t+c) _).mono ?_
  rintro e w2 ⟨rfl,hb⟩
  simp only [Num.v]
  have HB2:Hid (Below w.heap.size w w2):=chain (w:=(set4 w1 (w.heap.size) (.int .u64 s0) (.int .u64 s1) (.int .u64 s2) (.int .u64 s3))) (below_set4 HB1.out (by omega) _ _ _ _) hb
  have z2:w1.heap.size+0≤w2.heap.size:=by have:=(show Below ((set4 w1 (w.heap.size) (.int .u64 s0) (.int .u64 s1) (.int .u64 s2) (.int .u64 s3))).heap.size (set4 w1 (w.heap.size) (.int .u64 s0) (.int .u64 s1) (.int .u64 s2) (.int .u64 s3)) w2 from hb).size;(try simp only [set4_size,World.size_alloc] at this);omega
  have B_r_2:w2.heap[w.heap.size+1+1]? = some (.cells #[.int .u64 0,.int .u64 0,.int .u64 0,.int .u64 0] 94):=keep' (w:=(set4 w1 (w.heap.size) (.int .u64 s0) (.int .u64 s1) (.int .u64 s2) (.int .u64 s3))) hb ((set4_past _ _ _ _ _ _ _ (by omega)).trans B_r_1)
  clear hb
  have l_r_2:w.heap.size+1+1<w2.heap.size:=lt_of_heap B_r_2
  obtain ⟨c_r_2_0,c_r_2_1,c_r_2_2,c_r_2_3,f_r_2_0,f_r_2_1,f_r_2_2,f_r_2_3⟩:=four B_r_2
  go_wp2
  refine bodyPost_ret (v := .tuple #[.int .u64 s0,.agg #[.int .u64 s1,.int .u64 s2,.int .u64 s3,.int .u64 (t+c)]]) (results_tmp_mid Tryd.results82 _ _ (w.heap.size+1+1) 0 [.int .u64 s1,.int .u64 s2,.int .u64 s3,.int .u64 (t+c)] _ _ rfl rfl (range4 (w:=(set4 w2 (w.heap.size+1+1) (.int .u64 s1) (.int .u64 s2) (.int .u64 s3) (.int .u64 (t+c)))) (t:=94) (set4_here _ _ _ _ B_r_2)) Tryd.underlying94 rfl (by kernel_rfl)) rfl ⟨s0,⟨s1,s2,s3,t+c⟩,rfl,hs.1,⟨hs.2.1,hs.2.2.1,hs.2.2.2,by simp only;omega,ht1⟩,?_,(below_set4 HB2.out (by omega) _ _ _ _)⟩
  generalize Num.val ⟨a0,a1,a2,a3⟩=A at *
  generalize Num.val ⟨b0,b1,b2,b3⟩=B at *
  simp only [Num.val,RR] at *
  omega
set_option maxHeartbeats 400000 in
theorem settle_any (n:Num) (hn:n.ok) (w:World) :
    Calls Tryd.prog 72 #[n.v] w fun e w' => ∃ s:Num,e = .returned s.v∧s.ok∧s.val=n.val % PP∧Below w.heap.size w w':=by
  obtain ⟨n0,n1,n2,n3⟩:=n
  have han:=andnot63 n3 hn.2.2.2
  obtain ⟨q0,q1⟩:=hn.2.2.2
  simp only at q0 q1
  have hw1:IntKind.u64.wrap (19*(n3/9223372036854775808))=19*(n3/9223372036854775808):=by rw [IntKind.wrap_u64];omega
  simp only [Num.v] at *
  go_enter Tryd.func72,Tryd.ntmps72
  go_wp2_with fail
  refine (plus_any ⟨n0,n1,n2,n3 % 9223372036854775808⟩ ⟨19*(n3/9223372036854775808),0,0,0⟩ ⟨hn.1,hn.2.1,hn.2.2.1,by simp only;omega,by simp only;omega⟩ (ok1 (by omega) (by omega)) _).mono ?_
  rintro e w1 ⟨⟨s0,s1,s2,s3⟩,c,rfl,hs,c0,c1,he,hb⟩
  simp only [Num.v]
  have HB1:Hid (Below w.heap.size w w1):=chain (w:=((w.alloc (.cells #[.int .u64 n0,.int .u64 n1,.int .u64 n2,.int .u64 (n3 % 9223372036854775808)] 94)).alloc (.cells #[.int .u64 0,.int .u64 0,.int .u64 0,.int .u64 0] 94))) (Below.alloc (Below.alloc (Below.refl w.heap.size w) ((Below.refl w.heap.size w)).size _) ((Below.alloc (Below.refl w.heap.size w) ((Below.refl w.heap.size w)).size _)).size _) hb
  have z1:w.heap.size+2≤w1.heap.size:=by have:=(show Below (((w.alloc (.cells #[.int .u64 n0,.int .u64 n1,.int .u64 n2,.int .u64 (n3 % 9223372036854775808)] 94)).alloc (.cells #[.int .u64 0,.int .u64 0,.int .u64 0,.int .u64 0] 94))).heap.size ((w.alloc (.cells #[.int .u64 n0,.int .u64 n1,.int .u64 n2,.int .u64 (n3 % 9223372036854775808)] 94)).alloc (.cells #[.int .u64 0,.int .u64 0,.int .u64 0,.int .u64 0] 94)) w1 from hb).size;(try simp only [set4_size,World.size_alloc] at this);omega
  have B_n_1:w1.heap[w.heap.size]? = some (.cells #[.int .u64 n0,.int .u64 n1,.int .u64 n2,.int .u64 (n3 % 9223372036854775808)] 94):=keep' (w:=((w.alloc (.cells #[.int .u64 n0,.int .u64 n1,.int .u64 n2,.int .u64 (n3 % 9223372036854775808)] 94)).alloc (.cells #[.int .u64 0,.int .u64 0,.int .u64 0,.int .u64 0] 94))) hb ((heap_alloc_past _ _ _ (lt_of_heap (heap_alloc_here _ _ _ (by simp)))).trans (heap_alloc_here _ _ _ (by simp)))
  have B_r_1:w1.heap[w.heap.size+1]? = some (.cells #[.int .u64 0,.int .u64 0,.int .u64 0,.int .u64 0] 94):=keep' (w:=((w.alloc (.cells #[.int .u64 n0,.int .u64 n1,.int .u64 n2,.int .u64 (n3 % 9223372036854775808)] 94)).alloc (.cells #[.int .u64 0,.int .u64 0,.int .u64 0,.int .u64 0] 94))) hb (heap_alloc_here _ _ _ (by simp))
  clear hb
  have l_n_1:w.heap.size<w1.heap.size:=lt_of_heap B_n_1
  have l_r_1:w.heap.size+1<w1.heap.size:=lt_of_heap B_r_1
  obtain ⟨c_n_1_0,c_n_1_1,c_n_1_2,c_n_1_3,f_n_1_0,f_n_1_1,f_n_1_2,f_n_1_3⟩:=four B_n_1
  obtain ⟨c_r_1_0,c_r_1_1,c_r_1_2,c_r_1_3,f_r_1_0,f_r_1_1,f_r_1_2,f_r_1_3⟩:=four B_r_1
  go_wp2_with fail
  refine (plus_any ⟨s0,s1,s2,s3⟩ ⟨19,0,0,0⟩ hs (ok1 (by omega) (by omega)) _).mono ?_
  rintro e w2 ⟨⟨t0,t1,t2,t3⟩,d,rfl,ht,d0,d1,hf,hb⟩
  simp only [Num.v]
  have HB2:Hid (Below w.heap.size w w2):=chain (w:=(set4 w1 (w.heap.size) (.int .u64 s0) (.int .u64 s1) (.int .u64 s2) (.int .u64 s3))) (below_set4 HB1.out (by omega) _ _ _ _) hb
  have z2:w1.heap.size+0≤w2.heap.size:=by have:=(show Below ((set4 w1 (w.heap.size) (.int .u64 s0) (.int .u64 s1) (.int .u64 s2) (.int .u64 s3))).heap.size (set4 w1 (w.heap.size) (.int .u64 s0) (.int .u64 s1) (.int .u64 s2) (.int .u64 s3)) w2 from hb).size;(try simp only [set4_size,World.size_alloc] at this);omega
  have B_n_2:w2.heap[w.heap.size]? = some (.cells #[.int .u64 s0,.int .u64 s1,.int .u64 s2,.int .u64 s3] 94):=keep' (w:=(set4 w1 (w.heap.size) (.int .u64 s0) (.int .u64 s1) (.int .u64 s2) (.int .u64 s3))) hb (set4_here _ _ _ _ B_n_1)
  have B_r_2:w2.heap[w.heap.size+1]? = some (.cells #[.int .u64 0,.int .u64 0,.int .u64 0,.int .u64 0] 94):=keep' (w:=(set4 w1 (w.heap.size) (.int .u64 s0) (.int .u64 s1) (.int .u64 s2) (.int .u64 s3))) hb ((set4_past _ _ _ _ _ _ _ (by omega)).trans B_r_1)
  clear hb
  have l_n_2:w.heap.size<w2.heap.size:=lt_of_heap B_n_2
  have l_r_2:w.heap.size+1<w2.heap.size:=lt_of_heap B_r_2
  obtain ⟨c_n_2_0,c_n_2_1,c_n_2_2,c_n_2_3,f_n_2_0,f_n_2_1,f_n_2_2,f_n_2_3⟩:=four B_n_2
  obtain ⟨c_r_2_0,c_r_2_1,c_r_2_2,c_r_2_3,f_r_2_0,f_r_2_1,f_r_2_2,f_r_2_3⟩:=four B_r_2
  have han2:=andnot63 t3 ht.2.2.2
  have ne1 : ¬ w.heap.size+1=w2.heap.size:=by omega
  have ne2 : ¬ w2.heap.size=w.heap.size+1:=by omega
  have ne3 : ¬ w.heap.size=w2.heap.size:=by omega
  have ne4 : ¬ w2.heap.size=w.heap.size:=by omega
  obtain ⟨p0,p1⟩:=ht.2.2.2
  simp only at p0 p1
  have hb0:=Num.bound hs
  have hb1:=Num.bound ht
  have key:=settle_num (n0+n1*18446744073709551616+n2*340282366920938463463374607431768211456+(n3 % 9223372036854775808)*6277101735386680763835789423207666416102355444464034512896) (n3/9223372036854775808) _ c _ d (Num.val ⟨n0,n1,n2,n3⟩)
    (by have:=hn.1.1;have:=hn.2.1.1;have:=hn.2.2.1.1;simp only at *;omega) (by have:=hn.1.2;have:=hn.2.1.2;have:=hn.2.2.1.2;simp only at *;omega) (by omega) hb0 hb1 c0 c1 d0 d1 (by rw [he];simp only [Num.val];omega) (by rw [hf];simp only [Num.val];omega) (by simp only [Num.val];omega)
  obtain ⟨k1,k2⟩:=key
  have o0:=ht.1;have o1:=ht.2.1;have o2:=ht.2.2.1
  by_cases hq:t3/9223372036854775808=1
  · go_wp2
    refine bodyPost_ret (v := .agg #[.int .u64 t0,.int .u64 t1,.int .u64 t2,.int .u64 (t3 % 9223372036854775808)]) (results_mid Tryd.results72 _ _ (w.heap.size+1) 0 [.int .u64 t0,.int .u64 t1,.int .u64 t2,.int .u64 (t3 % 9223372036854775808)] _ rfl (range4 (w:=((set4 w2 (w.heap.size+1) (.int .u64 t0) (.int .u64 t1) (.int .u64 t2) (.int .u64 (t3 % 9223372036854775808))).alloc (.cells #[.int .u64 t0,.int .u64 t1,.int .u64 t2,.int .u64 (t3 % 9223372036854775808)] 94))) (t:=94) ((heap_alloc_past _ _ _ (lt_of_heap (set4_here _ _ _ _ B_r_2))).trans (set4_here _ _ _ _ B_r_2))) Tryd.underlying94 rfl (by kernel_rfl)) rfl ⟨⟨t0,t1,t2,t3 % 9223372036854775808⟩,rfl,⟨ht.1,ht.2.1,ht.2.2.1,by simp only;omega,by simp only;omega⟩,?_,(Below.alloc (below_set4 HB2.out (by omega) _ _ _ _) ((below_set4 HB2.out (by omega) _ _ _ _)).size _)⟩
    obtain ⟨_,_⟩:=o0;obtain ⟨_,_⟩:=o1;obtain ⟨_,_⟩:=o2
    have:=k1 (by simp only [Num.val] at *;omega)
    rw [←this]
    simp only [Num.val] at *
    rw [←han2]
    omega
  · go_wp2
    refine bodyPost_ret (v := .agg #[.int .u64 s0,.int .u64 s1,.int .u64 s2,.int .u64 s3]) (results_mid Tryd.results72 _ _ (w.heap.size+1) 0 [.int .u64 s0,.int .u64 s1,.int .u64 s2,.int .u64 s3] _ rfl (range4 (w:=((set4 w2 (w.heap.size+1) (.int .u64 s0) (.int .u64 s1) (.int .u64 s2) (.int .u64 s3)).alloc (.cells #[.int .u64 t0,.int .u64 t1,.int .u64 t2,.int .u64 t3] 94))) (t:=94) ((heap_alloc_past _ _ _ (lt_of_heap (set4_here _ _ _ _ B_r_2))).trans (set4_here _ _ _ _ B_r_2))) Tryd.underlying94 rfl (by kernel_rfl)) rfl ⟨⟨s0,s1,s2,s3⟩,rfl,hs,?_,(Below.alloc (below_set4 HB2.out (by omega) _ _ _ _) ((below_set4 HB2.out (by omega) _ _ _ _)).size _)⟩
    obtain ⟨_,_⟩:=o0;obtain ⟨_,_⟩:=o1;obtain ⟨_,_⟩:=o2
    exact k2 (by simp only [Num.val] at *;omega)
end Go.Proofs.YtmaehekekkfpmaaDoor
