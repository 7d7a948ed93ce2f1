/- Package tree: appendNode. -/
import Derived.Test.YtoldkelnjjphiaaDoorTreY
namespace Go.Proofs.YtoldkelnjjphiaaDoor
open Go Go.RowKit
set_option linter.unusedSimpArgs false
set_option linter.unusedVariables false
set_option maxRecDepth 100000

theorem range_grown {W W' : World} {b o : Nat} {cs : List Value} {row : Option Nat} (h : W.rangeAt b o cs) (hg : W.grownBy W' row) (hb : b < W.heap.size) (hr : some b ≠ row) : W'.rangeAt b o cs := fun j v hj => by
  have e : W'.heap[b]? = W.heap[b]? := hg.block b hb hr
  have := h j v hj
  unfold World.cell? at this ⊢
  rw [e]; exact this
theorem sl_two (w : World) (y z : Int) (t : TypeId) : Sl (w.alloc (.cells #[.int .u8 y, .int .u8 z] t)) (.slice (some ⟨w.heap.size, 0, none⟩) 2 2) [y, z] := by
  refine ⟨_, 2, rfl, Nat.le_refl _, .inr ⟨_, 0, rfl, by simp, fun i hi => ?_⟩⟩
  rw [Nat.zero_add, cell_alloc]
  have : i = 0 ∨ i = 1 := by simp at hi; omega
  rcases this with rfl | rfl <;> rfl
theorem size_al (w : World) (X : Obj) : (w.alloc X).heap.size = w.heap.size + 1 := by simp
set_option maxHeartbeats 2000000 in
theorem appendNode_any {B0 : Nat} (v : Value) (xs : List Int) (x : Nd) (hx : x.Ok) (hn0 : 0 ≤ x.n) (hn1 : x.n ≤ 256) (w : World) (h : Ow B0 w v xs) (hB : B0 ≤ w.heap.size) (hl : xs.length ≤ 1000000) :
    Calls Tryd.prog 57 #[v, .agg (nc x).toArray] w fun e w' => ∃ v', e = .returned v' ∧ Ow B0 w' v' (xs ++ nbs x) ∧ Below B0 w w' := by
  have s1 := nc_size hx
  have ra := range_alloc w (nc x) 27 (0, 0)
  obtain ⟨A, hA⟩ : ∃ A, (nc x).toArray = A := ⟨_, rfl⟩
  rw [hA] at ra s1 ⊢
  have HX : Hid x.Ok := hx
  obtain ⟨U, hU⟩ : ∃ U, w.alloc (.cells A 27) = U := ⟨_, rfl⟩
  have oU : Ow B0 U v xs := by rw [← hU]; exact h.alloc _
  have sU : U.heap.size = w.heap.size + 1 := by rw [← hU]; simp
  have bU : Below B0 w U := by rw [← hU]; exact (Below.refl _ w).alloc hB _
  rw [hU] at ra
  have hvb : ∀ b, v.ownBlock = some b → b < w.heap.size := h.lt
  obtain ⟨D, hD⟩ : ∃ D, w.heap.size = D := ⟨_, rfl⟩
  rw [hD] at ra sU hvb hB
  have HVB : Hid (∀ b, v.ownBlock = some b → b < D) := hvb
  have RX : Hid (U.rangeAt D 0 (nc x)) := ra
  have c0 : U.cell? ⟨D, 0, none⟩ = some (.int .i64 x.n) := nc_n ra
  have OU : Hid (Ow B0 U v xs) := oU
  have SU : Hid (U.heap.size = D + 1) := sU
  have BU : Hid (Below B0 w U) := bU
  obtain ⟨n, hn⟩ : ∃ n, x.n = n := ⟨_, rfl⟩
  have HNB : Hid (nbs x = [n / 256, n % 256] ++ x.p ++ x.h) := by show nbs x = _; unfold nbs; rw [hn]
  rw [hn] at c0 hn0 hn1
  have hw1 : IntKind.u8.wrap (n / 256) = n / 256 := by rw [IntKind.wrap_u8]; omega
  have hw2 : IntKind.u8.wrap n = n % 256 := by rw [IntKind.wrap_u8]
  have HXL : Hid (x.p.length = 32 ∧ x.h.length = 32) := ⟨hx.p.len, hx.h.len⟩
  clear h hx ra hvb oU sU bU hA hn
  go_enter Tryd.func57, Tryd.ntmps57
  go_upto_region 1 with (fail)
  try rw [hU]
  try rw [hD]
  clear hU hD
  go_wp2_with (first
    | (at_builtin; refine app_u8 (B0 := B0) rfl _ _ rfl (by rw [size_al]; have := SU.out; omega) v xs rfl (OU.out.alloc _) _ rfl [n / 256, n % 256] (sl_two U _ _ _) (by simp; omega) ?_; intro v1 w1 h1 h2 h3 h4; have O1 : Hid (Ow B0 w1 v1 (xs ++ [n / 256, n % 256])) := h1; have B1 : Hid (Below B0 U w1) := (Below.alloc (Below.refl _ U) (by have := SU.out; omega) _).trans h3; have R1 : Hid (w1.rangeAt D 0 (nc x)) := range_grown (range_below RX.out (Below.alloc (Below.refl _ U) (Nat.le_refl _) _) (by have := SU.out; omega)) h2 (by rw [size_al]; have := SU.out; omega) (fun e => Nat.lt_irrefl _ (HVB.out D e.symm)); have V1 : Hid (∀ b, v1.ownBlock = some b → b ≠ D) := (fun b hb e => by rcases h4 with q | q <;> rw [q] at hb; exact Nat.lt_irrefl _ (e ▸ HVB.out b hb); have q2 := Option.some.inj hb; rw [size_al] at q2; have := SU.out; omega); have Z1 : Hid (D < w1.heap.size) := (by have q1 := h3.size; rw [size_al] at q1; have := SU.out; show D < _; omega); clear h1 h2 h3 h4)
    | (at_builtin; refine app_u8 (B0 := B0) rfl _ _ rfl (by have q1 := Z1.out; omega) v1 (xs ++ [n / 256, n % 256]) rfl O1.out _ rfl x.p (sl_range HX.out.p (nc_p R1.out) Z1.out) (by have q1 := HXL.out; simp; omega) ?_; intro v2 w2 h1 h2 h3 h4; have O2 : Hid (Ow B0 w2 v2 (xs ++ [n / 256, n % 256] ++ x.p)) := h1; have B2 : Hid (Below B0 w1 w2) := h3; have R2 : Hid (w2.rangeAt D 0 (nc x)) := range_grown R1.out h2 Z1.out (fun e => V1.out D e.symm rfl); have V2 : Hid (∀ b, v2.ownBlock = some b → b ≠ D) := (fun b hb e => by rcases h4 with q | q <;> rw [q] at hb; exact V1.out b hb e; have q2 := Option.some.inj hb; have := Z1.out; omega); have Z2 : Hid (D < w2.heap.size) := Nat.lt_of_lt_of_le Z1.out h3.size; clear h1 h2 h3 h4)
    | (at_builtin; refine app_u8 (B0 := B0) rfl _ _ rfl (by have q1 := Z2.out; omega) v2 (xs ++ [n / 256, n % 256] ++ x.p) rfl O2.out _ rfl x.h (sl_range HX.out.h (nc_h HX.out R2.out) Z2.out) (by have q1 := HXL.out; simp; omega) ?_; intro v3 w3 h1 h2 h3 h4; have O3 : Hid (Ow B0 w3 v3 (xs ++ [n / 256, n % 256] ++ x.p ++ x.h)) := h1; have B3 : Hid (Below B0 w2 w3) := h3; clear h1 h2 h3 h4))
  go_ret
  refine ⟨_, rfl, ?_, BU.out.trans (B1.out.trans (B2.out.trans B3.out))⟩
  rw [HNB.out, ← List.append_assoc, ← List.append_assoc]
  exact O3.out
end Go.Proofs.YtoldkelnjjphiaaDoor
/- Package tree: nodes built. -/
namespace Go.Proofs.YtoldkelnjjphiaaDoor
open Go Go.RowKit
set_option linter.unusedSimpArgs false
set_option linter.unusedVariables false
set_option maxRecDepth 100000

theorem list32 {l : List Int} (h : l.length = 32) : ∃ a0 a1 a2 a3 a4 a5 a6 a7 a8 a9 a10 a11 a12 a13 a14 a15 a16 a17 a18 a19 a20 a21 a22 a23 a24 a25 a26 a27 a28 a29 a30 a31, l = [a0, a1, a2, a3, a4, a5, a6, a7, a8, a9, a10, a11, a12, a13, a14, a15, a16, a17, a18, a19, a20, a21, a22, a23, a24, a25, a26, a27, a28, a29, a30, a31] := by
  match l, h with
  | [a0, a1, a2, a3, a4, a5, a6, a7, a8, a9, a10, a11, a12, a13, a14, a15, a16, a17, a18, a19, a20, a21, a22, a23, a24, a25, a26, a27, a28, a29, a30, a31], _ => exact ⟨a0, a1, a2, a3, a4, a5, a6, a7, a8, a9, a10, a11, a12, a13, a14, a15, a16, a17, a18, a19, a20, a21, a22, a23, a24, a25, a26, a27, a28, a29, a30, a31, rfl⟩
theorem built_nd (n : Int) {p h : List Int} (hp : L32 p) (hh : L32 h) : Tryd.prog.built 27 [(0, .int .i64 n), (1, .agg (bv p).toArray), (2, .agg (bv h).toArray)] = some (nc ⟨n, p, h⟩).toArray := by
  obtain ⟨a0, a1, a2, a3, a4, a5, a6, a7, a8, a9, a10, a11, a12, a13, a14, a15, a16, a17, a18, a19, a20, a21, a22, a23, a24, a25, a26, a27, a28, a29, a30, a31, rfl⟩ := list32 hp.len
  obtain ⟨b0, b1, b2, b3, b4, b5, b6, b7, b8, b9, b10, b11, b12, b13, b14, b15, b16, b17, b18, b19, b20, b21, b22, b23, b24, b25, b26, b27, b28, b29, b30, b31, rfl⟩ := list32 hh.len
  kernel_rfl
theorem build_nd (n : Int) {p h : List Int} (hp : L32 p) (hh : L32 h) (w : World) : (Instr.build 27 #[(0, .int .i64 n), (1, .agg (bv p).toArray), (2, .agg (bv h).toArray)]).run Tryd.prog w = .ok (.agg (nc ⟨n, p, h⟩).toArray) w := run_build w _ _ _ (built_nd n hp hh)
theorem nbs_byt {x : Nd} (h : x.Ok) (h0 : 0 ≤ x.n) (h1 : x.n ≤ 256) : Byt (nbs x) := by
  unfold nbs
  refine Byt.append (Byt.append (fun z hz => ?_) h.p.byt) h.h.byt
  simp only [List.mem_cons, List.mem_nil_iff, or_false] at hz
  omega
theorem nbs_length {x : Nd} (h : x.Ok) : (nbs x).length = 66 := by simp [nbs, h.p.len, h.h.len]
theorem jnd_ok {c : Nat} {p : List Int} (hp : L32 p) (a b : Nd) : (jnd c p a b).Ok := ⟨fb_l32 hp c, hs_l32 _⟩
/-- Two nodes and an empty one in new blocks. -/
theorem three_rows (w : World) (l m k : List Value) (s t u : TypeId) : (((w.alloc (.cells l.toArray s)).alloc (.cells m.toArray t)).alloc (.cells k.toArray u)).rangeAt w.heap.size 0 l ∧ (((w.alloc (.cells l.toArray s)).alloc (.cells m.toArray t)).alloc (.cells k.toArray u)).rangeAt (w.heap.size + 1) 0 m ∧ (((w.alloc (.cells l.toArray s)).alloc (.cells m.toArray t)).alloc (.cells k.toArray u)).heap[w.heap.size + 2]? = some (.cells k.toArray u (0, 0)) ∧ (((w.alloc (.cells l.toArray s)).alloc (.cells m.toArray t)).alloc (.cells k.toArray u)).heap.size = w.heap.size + 3 ∧ Below w.heap.size w (((w.alloc (.cells l.toArray s)).alloc (.cells m.toArray t)).alloc (.cells k.toArray u)) := by
  obtain ⟨h1, h2, h3, h4⟩ := two_rows w l m s t
  refine ⟨range_below h1 ((Below.refl _ _).alloc (Nat.le_refl _) _) (by omega), range_below h2 ((Below.refl _ _).alloc (Nat.le_refl _) _) (by omega), ?_, by simp, h4.alloc h4.size _⟩
  show (((w.heap.push _).push _).push _)[w.heap.size + 2]? = _
  rw [Array.getElem?_push, if_pos (by simp)]
end Go.Proofs.YtoldkelnjjphiaaDoor
