/- Package tree: appendNode. -/
import Derived.Test.YtpojalbpekbfdabDoorTreY
namespace Go.Proofs.YtpojalbpekbfdabDoor
open Go Go.RowKit
set_option linter.unusedSimpArgs false
set_option linter.unusedVariables false
set_option maxRecDepth 100000

theorem range_grown {W W' : World} {b o : Nat} {cs : List Value} {row : Option Nat} (h : W.rangeAt b o cs) (hg : W.grownBy W' row) (hb : b < W.heap.size) (hr : some b ≠ row) : W'.rangeAt b o cs := fun j v hj => by
  have e : W'.heap[b]? = W.heap[b]? := hg.block b hb hr
  have := h j v hj
  unfold World.cell? at this ⊢
  rw [e]; exact this
theorem sl_two (w : World) (y z : Int) (t : TypeId) : Sl (w.alloc (.cells #[.int .u8 y, .int .u8 z] t)) (.slice (some ⟨w.heap.size, 0, none⟩) 2 2) [y, z] := by
  refine ⟨_, 2, rfl, Nat.le_refl _, .inr ⟨_, 0, rfl, by simp, fun i hi => ?_⟩⟩
  rw [Nat.zero_add, cell_alloc]
  have : i = 0 ∨ i = 1 := by simp at hi; omega
  rcases this with rfl | rfl <;> rfl
theorem size_al (w : World) (X : Obj) : (w.alloc X).heap.size = w.heap.size + 1 := by simp
set_option maxHeartbeats 2000000 in
theorem appendNode_any {B0 : Nat} (v : Value) (xs : List Int) (x : Nd) (hx : x.Ok) (hn0 : 0 ≤ x.n) (hn1 : x.n ≤ 256) (w : World) (h : Ow B0 w v xs) (hB : B0 ≤ w.heap.size) (hl : xs.length ≤ 1000000) :
    Calls Tryd.prog 51 #[v, .agg (nc x).toArray] w fun e w' => ∃ v', e = .returned v' ∧ Ow B0 w' v' (xs ++ nbs x) ∧ Below B0 w w' := by
  have s1 := nc_size hx
  have ra := range_alloc w (nc x) 33 (0, 0)
  obtain ⟨A, hA⟩ : ∃ A, (nc x).toArray = A := ⟨_, rfl⟩
  rw [hA] at ra s1 ⊢
  have HX : Hid x.Ok := hx
  obtain ⟨U, hU⟩ : ∃ U, w.alloc (.cells A 33) = U := ⟨_, rfl⟩
  have oU : Ow B0 U v xs := by rw [← hU]; exact h.alloc _
  have sU : U.heap.size = w.heap.size + 1 := by rw [← hU]; simp
  have bU : Below B0 w U := by rw [← hU]; exact (Below.refl _ w).alloc hB _
  rw [hU] at ra
  have hvb : ∀ b, v.ownBlock = some b → b < w.heap.size := h.lt
  obtain ⟨D, hD⟩ : ∃ D, w.heap.size = D := ⟨_, rfl⟩
  rw [hD] at ra sU hvb hB
  have HVB : Hid (∀ b, v.ownBlock = some b → b < D) := hvb
  have RX : Hid (U.rangeAt D 0 (nc x)) := ra
  have c0 : U.cell? ⟨D, 0, none⟩ = some (.int .i64 x.n) := nc_n ra
  have OU : Hid (Ow B0 U v xs) := oU
  have SU : Hid (U.heap.size = D + 1) := sU
  have BU : Hid (Below B0 w U) := bU
  obtain ⟨n, hn⟩ : ∃ n, x.n = n := ⟨_, rfl⟩
  have HNB : Hid (nbs x = [n / 256, n % 256] ++ x.p ++ x.h) := by show nbs x = _; unfold nbs; rw [hn]
  rw [hn] at c0 hn0 hn1
  have hw1 : IntKind.u8.wrap (n / 256) = n / 256 := by rw [IntKind.wrap_u8]; omega
  have hw2 : IntKind.u8.wrap n = n % 256 := by rw [IntKind.wrap_u8]
  have HXL : Hid (x.p.length = 32 ∧ x.h.length = 32) := ⟨hx.p.len, hx.h.len⟩
  clear h hx ra hvb oU sU bU hA hn
  go_enter Tryd.func51, Tryd.ntmps51
  go_upto_region 1 with (fail)
  try rw [hU]
  try rw [hD]
  clear hU hD
  go_wp2_with (first
    | (at_builtin; refine app_u8 (B0 := B0) rfl _ _ rfl (by rw [size_al]; have := SU.out; omega) v xs rfl (OU.out.alloc _) _ rfl [n / 256, n % 256] (sl_two U _ _ _) (by simp; omega) ?_; intro v1 w1 h1 h2 h3 h4; have O1 : Hid (Ow B0 w1 v1 (xs ++ [n / 256, n % 256])) := h1; have B1 : Hid (Below B0 U w1) := (Below.alloc (Below.refl _ U) (by have := SU.out; omega) _).trans h3; have R1 : Hid (w1.rangeAt D 0 (nc x)) := range_grown (range_below RX.out (Below.alloc (Below.refl _ U) (Nat.le_refl _) _) (by have := SU.out; omega)) h2 (by rw [size_al]; have := SU.out; omega) (fun e => Nat.lt_irrefl _ (HVB.out D e.symm)); have V1 : Hid (∀ b, v1.ownBlock = some b → b ≠ D) := (fun b hb e => by rcases h4 with q | q <;> rw [q] at hb; exact Nat.lt_irrefl _ (e ▸ HVB.out b hb); have q2 := Option.some.inj hb; rw [size_al] at q2; have := SU.out; omega); have Z1 : Hid (D < w1.heap.size) := (by have q1 := h3.size; rw [size_al] at q1; have := SU.out; show D < _; omega); clear h1 h2 h3 h4)
    | (at_builtin; refine app_u8 (B0 := B0) rfl _ _ rfl (by have q1 := Z1.out; omega) v1 (xs ++ [n / 256, n % 256]) rfl O1.out _ rfl x.p (sl_range HX.out.p (nc_p R1.out) Z1.out) (by have q1 := HXL.out; simp; omega) ?_; intro v2 w2 h1 h2 h3 h4; have O2 : Hid (Ow B0 w2 v2 (xs ++ [n / 256, n % 256] ++ x.p)) := h1; have B2 : Hid (Below B0 w1 w2) := h3; have R2 : Hid (w2.rangeAt D 0 (nc x)) := range_grown R1.out h2 Z1.out (fun e => V1.out D e.symm rfl); have V2 : Hid (∀ b, v2.ownBlock = some b → b ≠ D) := (fun b hb e => by rcases h4 with q | q <;> rw [q] at hb; exact V1.out b hb e; have q2 := Option.some.inj hb; have := Z1.out; omega); have Z2 : Hid (D < w2.heap.size) := Nat.lt_of_lt_of_le Z1.out h3.size; clear h1 h2 h3 h4)
    | (at_builtin; refine app_u8 (B0 := B0) rfl _ _ rfl (by have q1 := Z2.out; omega) v2 (xs ++ [n / 256, n % 256] ++ x.p) rfl O2.out _ rfl x.h (sl_range HX.out.h (nc_h HX.out R2.out) Z2.out) (by have q1 := HXL.out; simp; omega) ?_; intro v3 w3 h1 h2 h3 h4; have O3 : Hid (Ow B0 w3 v3 (xs ++ [n / 256, n % 256] ++ x.p ++ x.h)) := h1; have B3 : Hid (Below B0 w2 w3) := h3; clear h1 h2 h3 h4))
  go_ret
  refine ⟨_, rfl, ?_, BU.out.trans (B1.out.trans (B2.out.trans B3.out))⟩
  rw [HNB.out, ← List.append_assoc, ← List.append_assoc]
  exact O3.out
end Go.Proofs.YtpojalbpekbfdabDoor
/- Package tree: nodes built. -/
namespace Go.Proofs.YtpojalbpekbfdabDoor
open Go Go.RowKit
set_option linter.unusedSimpArgs false
set_option linter.unusedVariables false
set_option maxRecDepth 100000

theorem list32 {l : List Int} (h : l.length = 32) : ∃ a0 a1 a2 a3 a4 a5 a6 a7 a8 a9 a10 a11 a12 a13 a14 a15 a16 a17 a18 a19 a20 a21 a22 a23 a24 a25 a26 a27 a28 a29 a30 a31, l = [a0, a1, a2, a3, a4, a5, a6, a7, a8, a9, a10, a11, a12, a13, a14, a15, a16, a17, a18, a19, a20, a21, a22, a23, a24, a25, a26, a27, a28, a29, a30, a31] := by
  match l, h with
  | [a0, a1, a2, a3, a4, a5, a6, a7, a8, a9, a10, a11, a12, a13, a14, a15, a16, a17, a18, a19, a20, a21, a22, a23, a24, a25, a26, a27, a28, a29, a30, a31], _ => exact ⟨a0, a1, a2, a3, a4, a5, a6, a7, a8, a9, a10, a11, a12, a13, a14, a15, a16, a17, a18, a19, a20, a21, a22, a23, a24, a25, a26, a27, a28, a29, a30, a31, rfl⟩
theorem built_nd (n : Int) {p h : List Int} (hp : L32 p) (hh : L32 h) : Tryd.prog.built 33 [(0, .int .i64 n), (1, .agg (bv p).toArray), (2, .agg (bv h).toArray)] = some (nc ⟨n, p, h⟩).toArray := by
  obtain ⟨a0, a1, a2, a3, a4, a5, a6, a7, a8, a9, a10, a11, a12, a13, a14, a15, a16, a17, a18, a19, a20, a21, a22, a23, a24, a25, a26, a27, a28, a29, a30, a31, rfl⟩ := list32 hp.len
  obtain ⟨b0, b1, b2, b3, b4, b5, b6, b7, b8, b9, b10, b11, b12, b13, b14, b15, b16, b17, b18, b19, b20, b21, b22, b23, b24, b25, b26, b27, b28, b29, b30, b31, rfl⟩ := list32 hh.len
  kernel_rfl
theorem build_nd (n : Int) {p h : List Int} (hp : L32 p) (hh : L32 h) (w : World) : (Instr.build 33 #[(0, .int .i64 n), (1, .agg (bv p).toArray), (2, .agg (bv h).toArray)]).run Tryd.prog w = .ok (.agg (nc ⟨n, p, h⟩).toArray) w := run_build w _ _ _ (built_nd n hp hh)
theorem nbs_byt {x : Nd} (h : x.Ok) (h0 : 0 ≤ x.n) (h1 : x.n ≤ 256) : Byt (nbs x) := by
  unfold nbs
  refine Byt.append (Byt.append (fun z hz => ?_) h.p.byt) h.h.byt
  simp only [List.mem_cons, List.mem_nil_iff, or_false] at hz
  omega
theorem nbs_length {x : Nd} (h : x.Ok) : (nbs x).length = 66 := by simp [nbs, h.p.len, h.h.len]
theorem jnd_ok {c : Nat} {p : List Int} (hp : L32 p) (a b : Nd) : (jnd c p a b).Ok := ⟨fb_l32 hp c, hs_l32 _⟩
/-- Two nodes and an empty one in new blocks. -/
theorem three_rows (w : World) (l m k : List Value) (s t u : TypeId) : (((w.alloc (.cells l.toArray s)).alloc (.cells m.toArray t)).alloc (.cells k.toArray u)).rangeAt w.heap.size 0 l ∧ (((w.alloc (.cells l.toArray s)).alloc (.cells m.toArray t)).alloc (.cells k.toArray u)).rangeAt (w.heap.size + 1) 0 m ∧ (((w.alloc (.cells l.toArray s)).alloc (.cells m.toArray t)).alloc (.cells k.toArray u)).heap[w.heap.size + 2]? = some (.cells k.toArray u (0, 0)) ∧ (((w.alloc (.cells l.toArray s)).alloc (.cells m.toArray t)).alloc (.cells k.toArray u)).heap.size = w.heap.size + 3 ∧ Below w.heap.size w (((w.alloc (.cells l.toArray s)).alloc (.cells m.toArray t)).alloc (.cells k.toArray u)) := by
  obtain ⟨h1, h2, h3, h4⟩ := two_rows w l m s t
  refine ⟨range_below h1 ((Below.refl _ _).alloc (Nat.le_refl _) _) (by omega), range_below h2 ((Below.refl _ _).alloc (Nat.le_refl _) _) (by omega), ?_, by simp, h4.alloc h4.size _⟩
  show (((w.heap.push _).push _).push _)[w.heap.size + 2]? = _
  rw [Array.getElem?_push, if_pos (by simp)]
end Go.Proofs.YtpojalbpekbfdabDoor
/- Package tree: join. -/
namespace Go.Proofs.YtpojalbpekbfdabDoor
open Go Go.RowKit
set_option linter.unusedSimpArgs false
set_option linter.unusedVariables false
set_option maxRecDepth 100000

/-- A load of a row, the operation asked first. -/
theorem ld {P : Program} {ops : Array Oper} {rest : List Oper} {op : Oper} {a : Act} {w : World} {Q : Exit → Act → World → Prop} (ty : TypeId) (x : Operand) (ho : op.op = .load ty x) (hw : Region.wanted op (yielded ops a.tmps) = true)
    (b o : Nat) (hx : a.eval x = .pointer (some ⟨b, o, none⟩)) (cs : List Value) (d : TypeDesc) (hc : w.rangeAt b o cs)
    (hu : P.underlying ty = some d) (hd : d.isRow = true) (hi : (P.info? ty).map (·.size) = some cs.length)
    (h : wpList P ops Q rest (a.put op.dst (.agg cs.toArray)) w) : wpList P ops Q (op :: rest) a w := load_g hw ty x ho b o hx cs d hc hu hd hi h
/-- A struct of three fields built. -/
theorem wp_build3 {P : Program} {ops : Array Oper} {rest : List Oper} {o : Oper} {a : Act} {w : World} {Q : Exit → Act → World → Prop} (t : TypeId) (x0 x1 x2 : Operand) (ho : o.op = .build t #[(0, x0), (1, x1), (2, x2)]) (hgd : o.guard = none) (v0 v1 v2 : Value) (h0 : a.eval x0 = v0) (h1 : a.eval x1 = v1) (h2 : a.eval x2 = v2) (cells : Array Value)
    (hr : (Instr.build t #[(0, v0), (1, v1), (2, v2)]).run P w = .ok (.agg cells) w) (h : wpList P ops Q rest (a.put o.dst (.agg cells)) w) : wpList P ops Q (o :: rest) a w := by
  refine wpList_plain hgd fun K hK => ?_
  unfold Oper.wp execOp
  simp only [ho, Sem.run_bind, List.map_toArray, List.map_cons, List.map_nil, h0, h1, h2, hr, Result.andThen_ok, Sem.run_pure]
  exact hK _ _ h
set_option maxHeartbeats 4000000 in
theorem join_any (a b : Nd) (ha : a.Ok) (hb : b.Ok) (ha0 : 0 ≤ a.n) (ha1 : a.n ≤ 256) (hb0 : 0 ≤ b.n) (hb1 : b.n ≤ 256) (w : World) (hT : Tb w) :
    Calls Tryd.prog 67 #[.agg (nc a).toArray, .agg (nc b).toArray] w fun e w' => e = .returned (.agg (nc (jnd (cm a.p b.p 256) a.p a b)).toArray) ∧ Below w.heap.size w w' := by
  have s1 := nc_size ha
  have s2 := nc_size hb
  obtain ⟨ra, rb, rz, rs, rl⟩ := three_rows w (nc a) (nc b) (nc ndz) 33 33 33
  obtain ⟨A, hA⟩ : ∃ A, (nc a).toArray = A := ⟨_, rfl⟩
  obtain ⟨B, hB⟩ : ∃ B, (nc b).toArray = B := ⟨_, rfl⟩
  have hz := zero_nd
  obtain ⟨Z, hZ⟩ : ∃ Z, (nc ndz).toArray = Z := ⟨_, rfl⟩
  have hZs : Z.size = 65 := by rw [← hZ]; exact nc_size ndz_ok
  rw [hA, hB, hZ] at ra rb rz rs rl
  rw [hA] at s1 ⊢
  rw [hB] at s2 ⊢
  rw [hZ] at hz
  obtain ⟨U, hU⟩ : ∃ U, ((w.alloc (.cells A 33)).alloc (.cells B 33)).alloc (.cells Z 33) = U := ⟨_, rfl⟩
  rw [hU] at ra rb rz rs rl
  obtain ⟨c, hc⟩ : ∃ c, cm a.p b.p 256 = c := ⟨_, rfl⟩
  have hc2 : c ≤ 256 := by rw [← hc]; exact cm_le _ _ _
  rw [hc]
  obtain ⟨q, hq⟩ : ∃ q, fb a.p c = q := ⟨_, rfl⟩
  obtain ⟨H, hH⟩ : ∃ H, hs ([2] ++ nbs a ++ nbs b) = H := ⟨_, rfl⟩
  have HJ : Hid (jnd c a.p a b = ⟨(c : Int), q, H⟩) := by show jnd c a.p a b = _; unfold jnd; rw [hq, hH]
  have HQ : Hid (L32 q) := by rw [← hq]; exact fb_l32 ha.p c
  have HHL : Hid (L32 H) := by rw [← hH]; exact hs_l32 _
  have HBN : Hid (∀ W : World, (Instr.build 33 #[(0, .int .i64 (c : Int)), (1, .agg (bv q).toArray), (2, .agg (bv H).toArray)]).run Tryd.prog W = .ok (.agg (nc ⟨(c : Int), q, H⟩).toArray) W) := build_nd (c : Int) HQ.out HHL.out
  have HCM : Hid (∀ W : World, Calls Tryd.prog 65 #[.agg (bv a.p).toArray, .agg (bv b.p).toArray] W fun e w' => e = .returned (.int .i64 (c : Int)) ∧ Below W.heap.size W w') := fun W => by rw [← hc]; exact common_any a.p b.p W ha.p hb.p
  have HFB : Hid (∀ W : World, Calls Tryd.prog 38 #[.agg (bv a.p).toArray, .int .i64 (c : Int)] W fun e w' => e = .returned (.agg (bv q).toArray) ∧ Below W.heap.size W w') := fun W => by rw [← hq]; exact firstBits_any a.p ha.p c hc2 W
  have HAA : Hid (∀ (B0 : Nat) (v : Value) (xs : List Int) (W : World), Ow B0 W v xs → B0 ≤ W.heap.size → xs.length ≤ 1000000 → Calls Tryd.prog 51 #[v, .agg (nc a).toArray] W fun e w' => ∃ v', e = .returned v' ∧ Ow B0 w' v' (xs ++ nbs a) ∧ Below B0 W w') := fun B0 v xs W h1 h2 h3 => appendNode_any v xs a ha ha0 ha1 W h1 h2 h3
  have HAB : Hid (∀ (B0 : Nat) (v : Value) (xs : List Int) (W : World), Ow B0 W v xs → B0 ≤ W.heap.size → xs.length ≤ 1000000 → Calls Tryd.prog 51 #[v, .agg (nc b).toArray] W fun e w' => ∃ v', e = .returned v' ∧ Ow B0 w' v' (xs ++ nbs b) ∧ Below B0 W w') := fun B0 v xs W h1 h2 h3 => appendNode_any v xs b hb hb0 hb1 W h1 h2 h3
  have HSU : Hid (∀ (v : Value) (W : World), Tb W → Sq W v ([2] ++ nbs a ++ nbs b) → Calls Tryd.prog 37 #[v] W fun e w' => e = .returned (.agg (bv H).toArray) ∧ Below W.heap.size W w') := fun v W h1 h2 => sum256_sl _ H v hH (by rw [List.length_append, List.length_append, nbs_length ha, nbs_length hb]; simp) W h1 (Byt.append (Byt.append (fun z hz => by simp at hz; omega) (nbs_byt ha ha0 ha1)) (nbs_byt hb hb0 hb1)) h2
  have HLA : Hid ((nbs a).length = 66) := nbs_length ha
  have HA : Hid a.Ok := ha
  have HB : Hid b.Ok := hb
  have HT : Hid (Tb w) := hT
  have BU : Hid (Below w.heap.size w U) := rl
  obtain ⟨D, hD⟩ : ∃ D, w.heap.size = D := ⟨_, rfl⟩
  have HD : Hid (w.heap.size = D) := hD
  rw [hD] at ra rb rz rs
  have RA : Hid (U.rangeAt D 0 (nc a)) := ra
  have RB : Hid (U.rangeAt (D + 1) 0 (nc b)) := rb
  have RZ : Hid (U.heap[D + 2]? = some (.cells Z 33 (0, 0))) := rz
  have SU : Hid (U.heap.size = D + 3) := rs
  clear ra rb rz rs rl hA hB hZ hc hq hH ha hb hT ha0 ha1 hb0 hb1
  go_enter Tryd.func67, Tryd.ntmps67
  go_upto_region 1 with (fail)
  try rw [hU]
  try rw [hD]
  clear hU hD hz
  go_wp2_with (first
    | (refine ld 25 (.tmp 7) rfl rfl D 1 rfl (bv a.p) _ (nc_p RA.out) Tryd.underlying25 rfl (size_l32 HA.out.p) ?_)
    | (refine ld 25 (.tmp 9) rfl rfl (D + 1) 1 rfl (bv b.p) _ (nc_p RB.out) Tryd.underlying25 rfl (size_l32 HB.out.p) ?_)
    | (go_at_call 65; refine (HCM.out U).mono ?_; rintro e w1 ⟨rfl, h1⟩; have B1 : Hid (Below U.heap.size U w1) := h1; clear h1)
    | (at_make; refine make_u8 w1 rfl _ _ rfl .i64 .i64 _ 133 rfl rfl rfl (by omega) ?_; intro w2 h1 h2; have O2 : Hid (Ow w1.heap.size w2 (.slice (some ⟨w1.heap.size, 0, none⟩) 0 133) []) := h1; have B2 : Hid (Below w1.heap.size w1 w2) := h2; clear h1 h2)
    | (at_builtin; refine app_u8 (B0 := w1.heap.size) rfl _ _ rfl (by rw [size_al]; have := B2.out.size; omega) _ [] rfl (O2.out.alloc _) _ rfl [2] (Sl.one w2 2 _) (by simp) ?_; intro v3 w3 h1 h2 h3 h4; have O3 : Hid (Ow w1.heap.size w3 v3 [2]) := h1; have B3 : Hid (Below w1.heap.size w1 w3) := (B2.out.alloc B2.out.size _).trans h3; clear h1 h2 h3 h4)
    | (refine ld 33 (.tmp 2) rfl rfl D 0 rfl (nc a) _ (range_below (range_below RA.out B1.out (by have := SU.out; omega)) B3.out (by have := SU.out; have := B1.out.size; omega)) Tryd.underlying33 rfl (size_nc HA.out) ?_)
    | (go_at_call 51; refine (HAB.out w1.heap.size v4 ([2] ++ nbs a) w4 O4.out B4.out.size (by have := HLA.out; simp; omega)).mono ?_; rintro e w5 ⟨v5, rfl, h1, h2⟩; have O5 : Hid (Ow w1.heap.size w5 v5 ([2] ++ nbs a ++ nbs b)) := h1; have B5 : Hid (Below w1.heap.size w1 w5) := B4.out.trans h2; clear h1 h2)
    | (go_at_call 51; refine (HAA.out w1.heap.size v3 [2] w3 O3.out B3.out.size (by simp)).mono ?_; rintro e w4 ⟨v4, rfl, h1, h2⟩; have O4 : Hid (Ow w1.heap.size w4 v4 ([2] ++ nbs a)) := h1; have B4 : Hid (Below w1.heap.size w1 w4) := B3.out.trans h2; clear h1 h2)
    | (refine ld 33 (.tmp 3) rfl rfl (D + 1) 0 rfl (nc b) _ (range_below (range_below RB.out B1.out (by have := SU.out; omega)) B4.out (by have := SU.out; have := B1.out.size; omega)) Tryd.underlying33 rfl (size_nc HB.out) ?_)
    | (refine ld 25 (.tmp 23) rfl rfl D 1 rfl (bv a.p) _ (nc_p (range_below (range_below RA.out B1.out (by have := SU.out; omega)) B5.out (by have := SU.out; have := B1.out.size; omega))) Tryd.underlying25 rfl (size_l32 HA.out.p) ?_)
    | (go_at_call 38; refine (HFB.out w5).mono ?_; rintro e w6 ⟨rfl, h1⟩; have B6 : Hid (Below w5.heap.size w5 w6) := h1; clear h1))
  refine (HSU.out v5 w6 (HT.out.below (BU.out.trans ((B1.out.trans ((B5.out.mono B1.out.size).trans (B6.out.mono (Nat.le_trans B1.out.size B5.out.size)))).mono BU.out.size))) (O5.out.sq.below B6.out)).mono ?_
  rintro e w7 ⟨rfl, h1⟩
  have B7 : Hid (Below w1.heap.size w1 w7) := B5.out.trans ((B6.out.mono B5.out.size).trans (h1.mono (Nat.le_trans B5.out.size B6.out.size)))
  clear h1
  dsimp only
  refine ‹∀ (a : Act) (w : World), wpList Tryd.prog _ _ _ a w → _› _ _ ?_
  refine wp_build3 33 (.tmp 22) (.tmp 26) (.tmp 28) rfl rfl (.int .i64 (c : Int)) (.agg (bv q).toArray) (.agg (bv H).toArray) rfl rfl rfl (nc ⟨(c : Int), q, H⟩).toArray (HBN.out w7) ?_
  refine wpList_store_mid rfl 33 (.tmp 4) (.tmp 29) rfl (D + 2) 0 (nc ⟨(c : Int), q, H⟩).toArray rfl rfl (by rw [nc_size ⟨HQ.out, HHL.out⟩]; exact there_of_row' ((B7.out.block _ (by have := SU.out; have := B1.out.size; omega)).trans ((B1.out.block _ (by have := SU.out; omega)).trans RZ.out)) 0 65 (by omega)) (by rw [List.size_toArray]; exact size_nc ⟨HQ.out, HHL.out⟩) (nc_one _) ?_
  simp only [List.toList_toArray]
  go_wp2_with fail
  have hth : w7.there (D + 2) 0 65 := there_of_row' ((B7.out.block _ (by have := SU.out; have := B1.out.size; omega)).trans ((B1.out.block _ (by have := SU.out; omega)).trans RZ.out)) 0 65 (by omega)
  have qq : (w7.setCells (D + 2) 0 (nc ⟨(c : Int), q, H⟩)).rangeAt (D + 2) 0 (nc ⟨(c : Int), q, H⟩) := World.rangeAt_setCells_same _ _ _ _ (by rw [nc_length ⟨HQ.out, HHL.out⟩]; exact hth)
  have hbl : Below w.heap.size w (w7.setCells (D + 2) 0 (nc ⟨(c : Int), q, H⟩)) := below_setCells (by rw [HD.out]; omega) _ _ (BU.out.trans ((B1.out.trans (B7.out.mono B1.out.size)).mono BU.out.size))
  refine bodyPost_ret (v := .agg (nc ⟨(c : Int), q, H⟩).toArray) ?_ rfl ⟨by rw [HJ.out], hbl⟩
  simp only [results, Tryd.results67]
  simp [Act.put, asAddr, run_loadVar_mid _ (D + 2) 0 33 (nc ⟨(c : Int), q, H⟩) _ qq Tryd.underlying33 rfl (size_nc ⟨HQ.out, HHL.out⟩)]
end Go.Proofs.YtpojalbpekbfdabDoor
/- Package tree: over, root. -/
namespace Go.Proofs.YtpojalbpekbfdabDoor
open Go Go.RowKit
set_option linter.unusedSimpArgs false
set_option linter.unusedVariables false
set_option maxRecDepth 100000

theorem ov_fuel : ∀ (f g : Nat) (l : List Nd), Ris l → l ≠ [] → l.length ≤ f → l.length ≤ g → ov f l = ov g l
  | 0, g, l, _, hne, hf, _ => absurd (List.length_eq_zero_iff.1 (Nat.le_zero.1 hf)) hne
  | f + 1, 0, l, _, hne, _, hg => absurd (List.length_eq_zero_iff.1 (Nat.le_zero.1 hg)) hne
  | f + 1, g + 1, l, hr, hne, hf, hg => by
    simp only [ov]
    by_cases h1 : l.length ≤ 1
    · rw [if_pos h1, if_pos h1]
    · rw [if_neg h1, if_neg h1]
      obtain ⟨k1, k2⟩ := hr.cut_in (by omega)
      have t1 : (l.take (cut (cl l) l)).length = cut (cl l) l := by rw [List.length_take]; omega
      have t2 : (l.drop (cut (cl l) l)).length = l.length - cut (cl l) l := by rw [List.length_drop]
      rw [ov_fuel f g (l.take (cut (cl l) l)) (hr.sub (List.take_sublist _ _)) (fun e => by rw [e] at t1; simp at t1; omega) (by omega) (by omega),
        ov_fuel f g (l.drop (cut (cl l) l)) (hr.sub (List.drop_sublist _ _)) (fun e => by rw [e] at t2; simp at t2; omega) (by omega) (by omega)]
/-- Nodes that rise, of lengths that are lengths. -/
structure Rsn (l : List Nd) : Prop where
  ris : Ris l
  lo : ∀ x ∈ l, 0 ≤ x.n
  hi : ∀ x ∈ l, x.n ≤ 256
theorem Rsn.sub {l m : List Nd} (h : Rsn l) (hs : m.Sublist l) : Rsn m := ⟨h.ris.sub hs, fun x hx => h.lo x (hs.subset hx), fun x hx => h.hi x (hs.subset hx)⟩
theorem ov_ok {l : List Nd} (h : Rsn l) (hne : l ≠ []) (f : Nat) (hf : l.length ≤ f) : (ov f l).Ok ∧ 0 ≤ (ov f l).n ∧ (ov f l).n ≤ 256 := by
  obtain ⟨a, ha⟩ : ∃ x, l[0]? = some x := ⟨l[0]'(List.length_pos_iff.2 hne), List.getElem?_eq_getElem (List.length_pos_iff.2 hne)⟩
  have hm := List.mem_of_getElem? ha
  match f, hf with
  | 0, hf => exact absurd (List.length_eq_zero_iff.1 (Nat.le_zero.1 hf)) hne
  | f + 1, hf =>
    simp only [ov]
    by_cases h1 : l.length ≤ 1
    · rw [if_pos h1]
      have e : l.headD nd0 = a := by rw [List.headD_eq_head?_getD, List.head?_eq_getElem?, ha]; rfl
      rw [e]; exact ⟨h.ris.ok a hm, h.lo a hm, h.hi a hm⟩
    · rw [if_neg h1]
      have hc := h.ris.cl_lt (by omega)
      refine ⟨by rw [hp_eq ha]; exact jnd_ok (h.ris.ok a hm).p _ _, ?_, ?_⟩
      · show (0 : Int) ≤ ((cl l : Nat) : Int); omega
      · show ((cl l : Nat) : Int) ≤ 256; omega
/-- The node over nodes. -/
def ovl (l : List Nd) : Nd := ov l.length l
theorem ovl_one (x : Nd) : ovl [x] = x := rfl
theorem ovl_more {l : List Nd} (h : Ris l) (h2 : 2 ≤ l.length) : ovl l = jnd (cm (ovl (l.take (cut (cl l) l))).p (ovl (l.drop (cut (cl l) l))).p 256) (ovl (l.take (cut (cl l) l))).p (ovl (l.take (cut (cl l) l))) (ovl (l.drop (cut (cl l) l))) := by
  obtain ⟨f, hf⟩ : ∃ f, l.length = f + 1 := ⟨l.length - 1, by omega⟩
  obtain ⟨k1, k2⟩ := h.cut_in h2
  have t1 : (l.take (cut (cl l) l)).length = cut (cl l) l := by rw [List.length_take]; omega
  have t2 : (l.drop (cut (cl l) l)).length = l.length - cut (cl l) l := by rw [List.length_drop]
  have e1 : ovl (l.take (cut (cl l) l)) = ov f (l.take (cut (cl l) l)) := ov_fuel _ _ _ (h.sub (List.take_sublist _ _)) (fun e => by rw [e] at t1; simp at t1; omega) (Nat.le_refl _) (by omega)
  have e2 : ovl (l.drop (cut (cl l) l)) = ov f (l.drop (cut (cl l) l)) := ov_fuel _ _ _ (h.sub (List.drop_sublist _ _)) (fun e => by rw [e] at t2; simp at t2; omega) (Nat.le_refl _) (by omega)
  obtain ⟨c1, c2⟩ := halves_cm h h2 f (by omega)
  rw [e1, e2, c1]
  show ov l.length l = _
  rw [hf]
  simp only [ov]
  rw [if_neg (by omega)]
  unfold jnd
  rw [c2]
set_option maxHeartbeats 4000000 in
theorem over_any : ∀ (n : Nat) (l : List Nd), l.length ≤ n → Rsn l → l ≠ [] → l.length ≤ 140737488355328 → ∀ (v : Value) (w : World), NS w v l → Tb w →
    Calls Tryd.prog 41 #[v] w fun e w' => e = .returned (.agg (nc (ovl l)).toArray) ∧ Below w.heap.size w w'
  | 0, l, hl, _, hne, _, _, _, _, _ => absurd (List.length_eq_zero_iff.1 (Nat.le_zero.1 hl)) hne
  | n + 1, l, hl, hr, hne, hlen, v, w, hv, hT => by
    have IH := over_any n
    have hz := zero_nd
    obtain ⟨Z, hZ⟩ : ∃ Z, (nc ndz).toArray = Z := ⟨_, rfl⟩
    have hZs : Z.size = 65 := by rw [← hZ]; exact nc_size ndz_ok
    rw [hZ] at hz
    clear hZ
    have rz : (w.alloc (.cells Z 33)).heap[w.heap.size]? = some (.cells Z 33 (0, 0)) := by show (w.heap.push _)[w.heap.size]? = _; simp
    have rl : Below w.heap.size w (w.alloc (.cells Z 33)) := (Below.refl _ w).alloc (Nat.le_refl _) _
    have rs : (w.alloc (.cells Z 33)).heap.size = w.heap.size + 1 := by simp
    obtain ⟨U, hU⟩ : ∃ U, w.alloc (.cells Z 33) = U := ⟨_, rfl⟩
    rw [hU] at rz rl rs
    have BU : Hid (Below w.heap.size w U) := rl
    have TU : Hid (Tb U) := hT.below rl
    have VU : Hid (NS U v l) := hv.below rl
    obtain ⟨D, hD⟩ : ∃ D, w.heap.size = D := ⟨_, rfl⟩
    have HD : Hid (w.heap.size = D) := hD
    rw [hD] at rz rs
    have RZ : Hid (U.heap[D]? = some (.cells Z 33 (0, 0))) := rz
    have SU : Hid (U.heap.size = D + 1) := rs
    have HIH : Hid (∀ (l : List Nd), l.length ≤ n → Rsn l → l ≠ [] → l.length ≤ 140737488355328 → ∀ (v : Value) (w : World), NS w v l → Tb w → Calls Tryd.prog 41 #[v] w fun e w' => e = .returned (.agg (nc (ovl l)).toArray) ∧ Below w.heap.size w w') := IH
    clear rz rl rs hT IH
    obtain ⟨ad, cap, rfl, hcp, hx⟩ := hv
    by_cases h1 : l.length = 1
    · obtain ⟨x, rfl⟩ := List.length_eq_one_iff.1 h1
      rcases hx with ⟨h0, _⟩ | ⟨b, o, rfl, hlb, hm⟩
      · cases h0
      have RX : Hid (U.rangeAt b o (nc x)) := by have := hm 0 x rfl; rw [show o + 0 * 65 = o by omega] at this; exact range_below this BU.out hlb
      have HX : Hid x.Ok := hr.ris.ok x (by simp)
      have HE : Hid (ovl [x] = x) := rfl
      clear hm hr hcp
      rw [HE.out]
      simp only [List.length_singleton]
      go_enter Tryd.func41, Tryd.ntmps41
      go_upto_region 1 with (fail)
      try rw [hU]
      try rw [hD]
      clear hU hD hz
      go_wp2_with (first
        | (refine ld 33 (.tmp 9) rfl rfl b o rfl (nc x) _ RX.out Tryd.underlying33 rfl (size_nc HX.out) ?_)
        | (refine wpList_store_mid rfl 33 (.tmp 2) (.tmp 10) rfl D 0 (nc x).toArray rfl rfl (by rw [nc_size HX.out]; exact there_of_row' RZ.out 0 65 (by omega)) (by rw [List.size_toArray]; exact size_nc HX.out) (nc_one _) ?_; simp only [List.toList_toArray]))
      have qq : (U.setCells D 0 (nc x)).rangeAt D 0 (nc x) := World.rangeAt_setCells_same _ _ _ _ (by rw [nc_length HX.out]; exact there_of_row' RZ.out 0 65 (by omega))
      have hbl : Below w.heap.size w (U.setCells D 0 (nc x)) := below_setCells (by rw [HD.out]; exact Nat.le_refl _) _ _ BU.out
      refine bodyPost_ret (v := .agg (nc x).toArray) ?_ rfl ⟨rfl, hbl⟩
      simp only [results, Tryd.results41]
      simp [Act.put, asAddr, run_loadVar_mid _ D 0 33 (nc x) _ qq Tryd.underlying33 rfl (size_nc HX.out)]
    · have hl2 : 2 ≤ l.length := by have := List.length_pos_iff.2 hne; omega
      obtain ⟨k1, k2⟩ := hr.ris.cut_in hl2
      obtain ⟨m, hm⟩ : ∃ m, cut (cl l) l = m := ⟨_, rfl⟩
      have t1 : (l.take m).length = m := by rw [List.length_take]; omega
      have t2 : (l.drop m).length = l.length - m := by rw [List.length_drop]
      have n1 : l.take m ≠ [] := fun e => by rw [e] at t1; simp at t1; omega
      have n2 : l.drop m ≠ [] := fun e => by rw [e] at t2; simp at t2; omega
      have HE : Hid (ovl l = jnd (cm (ovl (l.take m)).p (ovl (l.drop m)).p 256) (ovl (l.take m)).p (ovl (l.take m)) (ovl (l.drop m))) := by have := ovl_more hr.ris hl2; rw [hm] at this; exact this
      obtain ⟨o1, o2, o3⟩ := ov_ok (hr.sub (List.take_sublist m l)) n1 _ (Nat.le_refl _)
      obtain ⟨p1, p2, p3⟩ := ov_ok (hr.sub (List.drop_sublist m l)) n2 _ (Nat.le_refl _)
      have HH : Hid (Calls Tryd.prog 66 #[.slice ad l.length cap] U fun e w' => ∃ v1 v2, e = .returned (.tuple #[v1, v2]) ∧ NS w' v1 (l.take m) ∧ NS w' v2 (l.drop m) ∧ Below U.heap.size U w') := by have := halves_any l hr.ris hl2 _ U VU.out hlen; rw [hm] at this; exact this
      have HO1 : Hid (∀ (v : Value) (W : World), NS W v (l.take m) → Tb W → Calls Tryd.prog 41 #[v] W fun e w' => e = .returned (.agg (nc (ovl (l.take m))).toArray) ∧ Below W.heap.size W w') := HIH.out _ (by omega) (hr.sub (List.take_sublist m l)) n1 (by omega)
      have HO2 : Hid (∀ (v : Value) (W : World), NS W v (l.drop m) → Tb W → Calls Tryd.prog 41 #[v] W fun e w' => e = .returned (.agg (nc (ovl (l.drop m))).toArray) ∧ Below W.heap.size W w') := HIH.out _ (by omega) (hr.sub (List.drop_sublist m l)) n2 (by omega)
      have HJ : Hid (∀ W : World, Tb W → Calls Tryd.prog 67 #[.agg (nc (ovl (l.take m))).toArray, .agg (nc (ovl (l.drop m))).toArray] W fun e w' => e = .returned (.agg (nc (ovl l)).toArray) ∧ Below W.heap.size W w') := fun W hW => by rw [HE.out]; exact join_any _ _ o1 p1 o2 o3 p2 p3 W hW
      have HOK : Hid (ovl l).Ok := (ov_ok hr hne _ (Nat.le_refl _)).1
      obtain ⟨R, hR⟩ : ∃ R, ovl l = R := ⟨_, rfl⟩
      obtain ⟨X, hX⟩ : ∃ X, ovl (l.take m) = X := ⟨_, rfl⟩
      obtain ⟨Y, hY⟩ : ∃ Y, ovl (l.drop m) = Y := ⟨_, rfl⟩
      rw [hR] at HJ HOK ⊢
      rw [hX] at HO1 HJ
      rw [hY] at HO2 HJ
      obtain ⟨len, hlenq⟩ : ∃ len, l.length = len := ⟨_, rfl⟩
      rw [hlenq] at HH h1 hl2 hlen ⊢
      have h1' : ¬ (len : Int) = 1 := by omega
      clear hr hx hcp o1 o2 o3 p1 p2 p3 n1 n2 t1 t2 k1 k2 hm hR hX hY HE hlenq
      go_enter Tryd.func41, Tryd.ntmps41
      go_upto_region 1 with (fail)
      try rw [hU]
      try rw [hD]
      clear hU hD hz
      go_wp2_with (first
        | (go_at_call 66; refine HH.out.mono ?_; rintro e w1 ⟨v1, v2, rfl, g1, g2, g3⟩; have N1 : Hid (NS w1 v1 (l.take m)) := g1; have N2 : Hid (NS w1 v2 (l.drop m)) := g2; have B1 : Hid (Below U.heap.size U w1) := g3; clear g1 g2 g3)
        | (go_at_call 41; refine (HO2.out v2 w2 (N2.out.below B2.out) ((TU.out.below B1.out).below B2.out)).mono ?_; rintro e w3 ⟨rfl, g1⟩; have B3 : Hid (Below w2.heap.size w2 w3) := g1; clear g1)
        | (go_at_call 41; refine (HO1.out v1 w1 N1.out (TU.out.below B1.out)).mono ?_; rintro e w2 ⟨rfl, g1⟩; have B2 : Hid (Below w1.heap.size w1 w2) := g1; clear g1)
        | (go_at_call 67; refine (HJ.out w3 (((TU.out.below B1.out).below B2.out).below B3.out)).mono ?_; rintro e w4 ⟨rfl, g1⟩; have B4 : Hid (Below U.heap.size U w4) := B1.out.trans ((B2.out.trans ((B3.out.trans (g1.mono B3.out.size)).mono B2.out.size)).mono B1.out.size); clear g1)
        | (refine wpList_store_mid rfl 33 (.tmp 2) (.tmp 20) rfl D 0 (nc R).toArray rfl rfl (by rw [nc_size HOK.out]; exact there_of_row' ((B4.out.block _ (by have := SU.out; omega)).trans RZ.out) 0 65 (by omega)) (by rw [List.size_toArray]; exact size_nc HOK.out) (nc_one _) ?_; simp only [List.toList_toArray]))
      have qq : (w4.setCells D 0 (nc R)).rangeAt D 0 (nc R) := World.rangeAt_setCells_same _ _ _ _ (by rw [nc_length HOK.out]; exact there_of_row' ((B4.out.block _ (by have := SU.out; omega)).trans RZ.out) 0 65 (by omega))
      have hbl : Below w.heap.size w (w4.setCells D 0 (nc R)) := below_setCells (by rw [HD.out]; exact Nat.le_refl _) _ _ (BU.out.trans (B4.out.mono BU.out.size))
      refine bodyPost_ret (v := .agg (nc R).toArray) ?_ rfl ⟨rfl, hbl⟩
      simp only [results, Tryd.results41]
      simp [Act.put, asAddr, run_loadVar_mid _ D 0 33 (nc R) _ qq Tryd.underlying33 rfl (size_nc HOK.out)]
end Go.Proofs.YtpojalbpekbfdabDoor
