/- Package tree: sorting nothing; RootOf of nothing. -/
import Derived.Test.YtpojalbpekbfdabDoorTrjD
import Derived.Deep.DeepAppendWide
namespace Go.Proofs.YtpojalbpekbfdabDoor
open Go Go.RowKit
set_option linter.unusedSimpArgs false
set_option linter.unusedVariables false
set_option maxRecDepth 100000

set_option maxHeartbeats 1000000 in
theorem insert_none (v c : Value) (w : World) : Calls Tryd.prog 52 #[v, .int .i64 0, .int .i64 0, c] w fun e w' => e = .returned (.tuple #[]) ∧ w' = w := by
  go_enter Tryd.func52, Tryd.ntmps52
  go_wp2
  refine wp_loop_rounds 1 ?_
  rw [rounds_succ]
  go_wp2
  go_end0
  exact ⟨rfl, rfl⟩
set_option maxHeartbeats 1000000 in
theorem pdq_none (v c : Value) (w : World) (k : Int) : Calls Tryd.prog 34 #[v, .int .i64 0, .int .i64 0, .int .i64 k, c] w fun e w' => e = .returned (.tuple #[]) ∧ w' = w := by
  go_enter Tryd.func34, Tryd.ntmps34
  go_wp2
  refine wp_loop_rounds 1 ?_
  rw [rounds_succ]
  go_wp2_with (go_at_call 52; refine (insert_none _ _ _).mono ?_; rintro e w1 ⟨rfl, rfl⟩)
  exact bodyPost_ret (v := .tuple #[]) (results_none Tryd.results34 _ _ _) rfl ⟨rfl, rfl⟩
set_option maxHeartbeats 1000000 in
theorem len64_none (w : World) : Calls Tryd.prog 61 #[.int .u64 0] w fun e w' => e = .returned (.int .i64 0) ∧ w' = w := by
  go_enter Tryd.func61, Tryd.ntmps61
  go_wp2
  go_ret
  refine ⟨?_, rfl⟩
  first | rfl | kernel_rfl
set_option maxHeartbeats 1000000 in
theorem len_none (w : World) : Calls Tryd.prog 35 #[.int .u64 0] w fun e w' => e = .returned (.int .i64 0) ∧ w' = w := by
  go_enter Tryd.func35, Tryd.ntmps35
  go_wp2_with (go_at_call 61; refine (len64_none _).mono ?_; rintro e w1 ⟨rfl, rfl⟩)
  go_ret
  exact ⟨rfl, rfl⟩
set_option maxHeartbeats 1000000 in
theorem sort_none (ad : Option Addr) (cap : Nat) (c : Value) (w : World) : Calls Tryd.prog 19 #[.slice ad 0 cap, c] w fun e w' => e = .returned (.tuple #[]) ∧ w' = w := by
  go_enter Tryd.func19, Tryd.ntmps19
  go_wp2_with (first
    | (go_at_call 35; refine (len_none _).mono ?_; rintro e w1 ⟨rfl, rfl⟩)
    | (go_at_call 34; refine (pdq_none _ _ _ _).mono ?_; rintro e w1 ⟨rfl, rfl⟩))
  go_end0
  exact ⟨rfl, rfl⟩
theorem apt_nil : apt [] = true := rfl
theorem ns_none (w : World) (ad : Option Addr) (cap : Nat) (h : ad = none → cap = 0) : NS w (.slice ad 0 cap) [] := ⟨ad, cap, rfl, Nat.zero_le _, .inl ⟨rfl, h⟩⟩
theorem make_none (w : World) : (Instr.makeSlice 28 (.int .i64 0) (.int .i64 0)).run Tryd.prog w = .ok (.slice (some ⟨w.heap.size, 0, none⟩) 0 0) (w.alloc (.cells #[] 33)) := by kernel_rfl
theorem rsn_nil : Rsn [] := ⟨⟨(fun x hx => by cases hx), List.Pairwise.nil⟩, (fun x hx => by cases hx), (fun x hx => by cases hx)⟩
end Go.Proofs.YtpojalbpekbfdabDoor
/- Package tree: copyNodes of the law. -/
namespace Go.Proofs.YtpojalbpekbfdabDoor
open Go Go.RowKit
set_option linter.unusedSimpArgs false
set_option linter.unusedVariables false
set_option maxRecDepth 100000

/-- All cells of nodes. -/
def ncs (l : List Nd) : List Value := l.flatMap nc
theorem ncs_length : ∀ {l : List Nd}, (∀ x ∈ l, x.Ok) → (ncs l).length = l.length * 65
  | [], _ => rfl
  | a :: r, h => by
    have ih := ncs_length (l := r) (fun x hx => h x (List.mem_cons_of_mem _ hx))
    show (nc a ++ ncs r).length = _
    rw [List.length_append, ih, nc_length (h a List.mem_cons_self), List.length_cons]
    omega
theorem ncs_one (l : List Nd) : ∀ u ∈ ncs l, u.oneCell' = true := by
  intro u hu
  obtain ⟨x, hx, hu⟩ := List.mem_flatMap.1 hu
  have h := nc_one x
  rw [Array.all_eq_true] at h
  obtain ⟨i, hi, rfl⟩ := List.getElem_of_mem hu
  have := h i (by simpa using hi)
  simpa using this
/-- A cell of all cells is a cell of a node. -/
theorem ncs_get : ∀ {l : List Nd}, (∀ x ∈ l, x.Ok) → ∀ (i j : Nat) (x : Nd), l[i]? = some x → j < 65 → (ncs l)[i * 65 + j]? = (nc x)[j]?
  | [], _, i, j, x, h, _ => by simp at h
  | a :: r, hk, i, j, x, h, hj => by
    show (nc a ++ ncs r)[i * 65 + j]? = _
    have ha := nc_length (hk a List.mem_cons_self)
    cases i with
    | zero =>
      simp at h; subst h
      rw [Nat.zero_mul, Nat.zero_add, List.getElem?_append_left (by omega)]
    | succ i =>
      rw [List.getElem?_append_right (by omega), ha, show (i + 1) * 65 + j - 65 = i * 65 + j by omega]
      exact ncs_get (fun x hx => hk x (List.mem_cons_of_mem _ hx)) i j x (by simpa using h) hj
theorem ncs_at {w : World} {b o : Nat} {l : List Nd} (hk : ∀ x ∈ l, x.Ok) (hm : ∀ (i : Nat) (x : Nd), l[i]? = some x → w.rangeAt b (o + i * 65) (nc x)) : ∀ j u, (ncs l)[j]? = some u → w.cell? ⟨b, o + j, none⟩ = some u := by
  intro j u hu
  have hj := (List.getElem?_eq_some_iff.1 hu).1
  rw [ncs_length hk] at hj
  have hi : j / 65 < l.length := by omega
  have e := ncs_get hk (j / 65) (j % 65) l[j / 65] (List.getElem?_eq_getElem hi) (by omega)
  have hd : j / 65 * 65 + j % 65 = j := by omega
  rw [hd, hu] at e
  have := hm (j / 65) _ (List.getElem?_eq_getElem hi) (j % 65) u e.symm
  rwa [show o + j / 65 * 65 + j % 65 = o + j by omega] at this
theorem info_nd : ∃ i z, Tryd.prog.info? 33 = some i ∧ i.zero = some z ∧ i.size = 65 ∧ i.bytes = 72 ∧ z.cells.size = 65 := by
  have h1 : (Tryd.prog.info? 33).map (·.size) = some 65 := by kernel_rfl
  have h2 : (Tryd.prog.info? 33).map (·.bytes) = some 72 := by kernel_rfl
  have h3 : (Tryd.prog.info? 33).bind (fun i => i.zero.map (·.cells.size)) = some 65 := by kernel_rfl
  cases hq : Tryd.prog.info? 33 with
  | none => rw [hq] at h1; cases h1
  | some i =>
    rw [hq] at h1 h2 h3
    cases hz : i.zero with
    | none => simp [hz] at h3
    | some z => exact ⟨i, z, rfl, hz, Option.some.inj h1, Option.some.inj h2, by simpa [hz] using h3⟩
/-- Nodes in a row of one's own. -/
theorem ns_row {w : World} {v : Value} {l : List Nd} (hk : ∀ x ∈ l, x.Ok) {B : Nat} (h : w.ownsRow B 33 65 v l.length (ncs l)) : NS w v l := by
  have h' := h
  obtain ⟨h1, ⟨rfl, h2⟩ | ⟨g, cap, cur, rfl, -, hg, hnc, -, hcs, -⟩⟩ := h
  · have : l = [] := List.length_eq_zero_iff.1 h2
    subst this
    exact ⟨none, 0, rfl, Nat.le_refl _, .inl ⟨rfl, fun _ => rfl⟩⟩
  · refine ⟨_, cap, rfl, hnc, .inr ⟨g, 0, rfl, (Array.getElem?_eq_some_iff.1 hg).1, ?_⟩⟩
    intro i x hi j u hu
    have hx : x ∈ l := List.mem_of_getElem? hi
    have hj := (List.getElem?_eq_some_iff.1 hu).1
    rw [nc_length (hk x hx)] at hj
    have := h'.cells (g := g) rfl (i * 65 + j) u (by rw [ncs_get hk i j x hi hj]; exact hu)
    rw [addr_add0] at this
    rwa [show 0 + i * 65 + j = 0 + (i * 65 + j) by omega]
theorem lit_none (w : World) : (Instr.buildSlice 28 0 #[]).run Tryd.prog w = .ok (.slice (some ⟨w.heap.size, 0, none⟩) 0 0) (w.alloc (.cells #[] 33)) := by kernel_rfl
/-- Nodes behind none. -/
theorem app_nodes (w : World) (l : List Nd) (hk : ∀ x ∈ l, x.Ok) (hlen : l.length ≤ 3000000000000) (u : Value) (hu : NS w u l) :
    ∃ v' w', (Builtin.append_ #[28, 28] 28 #[.slice (some ⟨w.heap.size, 0, none⟩) 0 0, u]).run Tryd.prog (w.alloc (.cells #[] 33)) = .ok v' w' ∧ NS w' v' l ∧ Below w.heap.size w w' := by
  obtain ⟨i, z, hi, hz, hs, hb, hzs⟩ := info_nd
  obtain ⟨W, hW⟩ : ∃ W, w.alloc (.cells #[] 33) = W := ⟨_, rfl⟩
  have hB : Below w.heap.size w W := by rw [← hW]; exact (Below.refl _ w).alloc (Nat.le_refl _) _
  have hh : W.heap[w.heap.size]? = some (.cells #[] 33 (0, 0)) := by rw [← hW]; show (w.heap.push _)[w.heap.size]? = _; simp
  have hS : w.heap.size < W.heap.size := (Array.getElem?_eq_some_iff.1 hh).1
  have hu2 : NS W u l := hu.below hB
  rw [hW]
  have ho : W.ownsRow w.heap.size 33 65 (.slice (some ⟨w.heap.size, 0, none⟩) 0 0) 0 [] := ⟨rfl, .inr ⟨w.heap.size, 0, _, rfl, Nat.le_refl _, hh, Nat.le_refl _, by unfold maxLen; omega, rfl, rfl⟩⟩
  have hbytes : ((0 + l.length) + (0 + l.length) / 4 + 192) * 72 ≤ 281474976710656 := Nat.le_trans (Nat.mul_le_mul_right 72 (show (0 + l.length) + (0 + l.length) / 4 + 192 ≤ 3750000000192 by omega)) (by decide)
  have fin : ∀ w', W.grownBy w' ((.slice (some ⟨w.heap.size, 0, none⟩) 0 0 : Value).ownBlock) → Below w.heap.size w w' := fun w' g => hB.grown g (Nat.le_of_lt hS) (fun b e => by cases e; exact Nat.le_refl _)
  obtain ⟨ad, cap, rfl, hc, ⟨rfl, hn⟩ | ⟨b, o, rfl, hlt, hm⟩⟩ := hu2
  · cases ad with
    | none =>
      obtain rfl := hn rfl
      exact ⟨_, _, run_append_owned_none (P := Tryd.prog) W w.heap.size _ _ _ i 65 Tryd.underlying28 hi _ 0 [] ho, ns_none _ _ _ (fun h => by cases h), hB⟩
    | some A =>
      obtain ⟨v', w', hr, h2, h3, -⟩ := run_append_own_wide (P := Tryd.prog) W w.heap.size 28 28 33 i z 65 72 Tryd.underlying28 hi hz hs hb hzs (by decide) _ 0 [] ho A 0 cap [] rfl (fun j u hu => by simp at hu) (fun _ h => by cases h) (by unfold maxLen; omega) (by decide) (Nat.le_of_lt hS)
      exact ⟨v', w', hr, ns_row (l := []) (fun x hx => by cases hx) h2, fin w' h3⟩
  · obtain ⟨v', w', hr, h2, h3, -⟩ := run_append_own_wide (P := Tryd.prog) W w.heap.size 28 28 33 i z 65 72 Tryd.underlying28 hi hz hs hb hzs (by decide) _ 0 [] ho ⟨b, o, none⟩ l.length cap (ncs l) (ncs_length hk) (fun j u hu => by rw [addr_add0]; exact ncs_at hk hm j u hu) (ncs_one l) (by unfold maxLen; omega) hbytes (Nat.le_of_lt hS)
    rw [Nat.zero_add, List.nil_append] at h2
    exact ⟨v', w', hr, ns_row hk h2, fin w' h3⟩
/-- append whose run is known. -/
theorem wp_app_run {P : Program} {ops : Array Oper} {rest : List Oper} {o : Oper} {a : Act} {w : World} {Q : Exit → Act → World → Prop} (hgd : o.guard = none) (s x : Operand) (t : TypeId) (ho : o.op = .call { callee := .builtin .append, args := #[s, x], argTypes := #[t, t] })
    (T : TypeId) (hT : o.type = T) (v u v' : Value) (w' : World) (hs : a.eval s = v) (hx : a.eval x = u) (hr : (Builtin.append_ #[t, t] T #[v, u]).run P w = .ok v' w') (h : wpList P ops Q rest (a.put o.dst v') w') : wpList P ops Q (o :: rest) a w := by
  subst hT
  refine wpList_plain hgd fun K hK => ?_
  unfold Oper.wp execOp
  simp only [ho, resolve, invoke, builtin, Sem.run_bind, Sem.run_pure, Result.andThen_ok, List.map_toArray, List.map_cons, List.map_nil, hs, hx, hr]
  exact hK _ _ h
end Go.Proofs.YtpojalbpekbfdabDoor
/- Package tree: LeafNode. -/
namespace Go.Proofs.YtpojalbpekbfdabDoor
open Go Go.RowKit
set_option linter.unusedSimpArgs false
set_option linter.unusedVariables false
set_option maxRecDepth 100000

/-- A leaf's cells. -/
def lf (p q : List Int) : List Value := bv p ++ bv q
theorem lf_length {p q : List Int} (hp : L32 p) (hq : L32 q) : (lf p q).length = 64 := by simp [lf, bv_length, hp.len, hq.len]
/-- The node of a leaf. -/
def lnd (p q : List Int) : Nd := ⟨256, p, hs ([1] ++ p ++ q)⟩
def lfΩ (U : World) (D : Nat) (x : Nd) : Nat → (Nat → Value) → World → Prop
  | 0, _, W => Below U.heap.size U W
  | _ + 1, _, W => ∃ W0, Below U.heap.size U W0 ∧ W = W0.setCells D 0 (nc x)
theorem lf_p {w : World} {b o : Nat} {p q : List Int} (h : w.rangeAt b o (lf p q)) : w.rangeAt b o (bv p) := fun j v hj => h j v (by
  unfold lf; rw [List.getElem?_append_left (List.getElem?_eq_some_iff.1 hj).1]; exact hj)
theorem lf_q {w : World} {b o : Nat} {p q : List Int} (hp : L32 p) (h : w.rangeAt b o (lf p q)) : w.rangeAt b (o + 32) (bv q) := fun j v hj => by
  have := h (32 + j) v (by unfold lf; rw [List.getElem?_append_right (by rw [bv_length, hp.len]; omega), bv_length, hp.len, show 32 + j - 32 = j by omega]; exact hj)
  rwa [show o + 32 + j = o + (32 + j) by omega]
def lf3f (D : Nat) (p H : List Int) (v2 : Value) : Nat → Value
  | 0 => .pointer (some ⟨D, 0, none⟩)
  | 1 => .agg (bv p).toArray
  | 2 => v2
  | 3 => .agg (bv H).toArray
  | 4 => .agg (nc ⟨256, p, H⟩).toArray
  | 5 => undef
  | _ => undef
set_option maxHeartbeats 2000000 in
theorem leafNode_any (p q : List Int) (hp : L32 p) (hq : L32 q) (w : World) (hT : Tb w) :
    Calls Tryd.prog 22 #[.agg (lf p q).toArray] w fun e w' => e = .returned (.agg (nc (lnd p q)).toArray) ∧ Below w.heap.size w w' := by
  have hz := zero_nd
  have ra := range_alloc w (lf p q) 27 (0, 0)
  have s1 : (lf p q).toArray.size = 64 := by rw [List.size_toArray]; exact lf_length hp hq
  obtain ⟨A, hA⟩ : ∃ A, (lf p q).toArray = A := ⟨_, rfl⟩
  obtain ⟨Z, hZ⟩ : ∃ Z, (nc ndz).toArray = Z := ⟨_, rfl⟩
  have hZs : Z.size = 65 := by rw [← hZ]; exact nc_size ndz_ok
  rw [hA] at ra s1 ⊢
  rw [hZ] at hz
  obtain ⟨U, hU⟩ : ∃ U, (w.alloc (.cells A 27)).alloc (.cells Z 33) = U := ⟨_, rfl⟩
  have sU : U.heap.size = w.heap.size + 2 := by rw [← hU]; simp
  have bU : Below w.heap.size w U := by rw [← hU]; exact ((Below.refl _ w).alloc (Nat.le_refl _) _).alloc (by simp) _
  have rz : U.heap[w.heap.size + 1]? = some (.cells Z 33 (0, 0)) := by rw [← hU]; show ((w.heap.push _).push _)[w.heap.size + 1]? = _; rw [Array.getElem?_push, if_pos (by simp)]
  have rp : U.rangeAt w.heap.size 0 (lf p q) := by rw [← hU]; exact range_below ra ((Below.refl _ _).alloc (Nat.le_refl _) _) (by simp)
  obtain ⟨H, hH⟩ : ∃ H, hs ([1] ++ p ++ q) = H := ⟨_, rfl⟩
  have HJ : Hid (lnd p q = ⟨256, p, H⟩) := by show lnd p q = _; unfold lnd; rw [hH]
  have HHL : Hid (L32 H) := by rw [← hH]; exact hs_l32 _
  have HP : Hid (L32 p) := hp
  have HQ : Hid (L32 q) := hq
  have HBN : Hid (∀ W : World, (Instr.build 33 #[(0, .int .i64 256), (1, .agg (bv p).toArray), (2, .agg (bv H).toArray)]).run Tryd.prog W = .ok (.agg (nc ⟨256, p, H⟩).toArray) W) := build_nd 256 HP.out HHL.out
  have HSU : Hid (∀ (v : Value) (W : World), Tb W → Sq W v ([1] ++ p ++ q) → Calls Tryd.prog 37 #[v] W fun e w' => e = .returned (.agg (bv H).toArray) ∧ Below W.heap.size W w') := fun v W h1 h2 => sum256_sl _ H v hH (by rw [List.length_append, List.length_append, hp.len, hq.len]; simp) W h1 (Byt.append (Byt.append (fun z hz => by simp at hz; omega) hp.byt) hq.byt) h2
  have HLP : Hid (p.length = 32) := hp.len
  have HLQ : Hid (q.length = 32) := hq.len
  have TU : Hid (Tb U) := hT.below bU
  have BU : Hid (Below w.heap.size w U) := bU
  obtain ⟨D, hD⟩ : ∃ D, w.heap.size = D := ⟨_, rfl⟩
  have HD : Hid (w.heap.size = D) := hD
  rw [hD] at sU rz rp
  have SU : Hid (U.heap.size = D + 2) := sU
  have RZ : Hid (U.heap[D + 1]? = some (.cells Z 33 (0, 0))) := rz
  have RX : Hid (U.rangeAt D 0 (lf p q)) := rp
  have O1 : Hid (Ow U.heap.size (U.alloc (.cells #[.int .u8 1] 5)) (.slice (some ⟨U.heap.size, 0, none⟩) 1 1) [1]) := ow_one U 1
  have BA : Hid (Below U.heap.size U (U.alloc (.cells #[.int .u8 1] 5))) := (Below.refl _ U).alloc (Nat.le_refl _) _
  clear ra sU bU rz rp hA hZ hH hp hq hT
  go_enter Tryd.func22, Tryd.ntmps22
  go_upto_region 1 with (fail)
  try rw [hU]
  try rw [hD]
  clear hU hD hz
  go_upto_region 3 with (first
    | (at_builtin; refine app_u8 (B0 := U.heap.size) rfl (.tmp 8) (.tmp 10) rfl (B1.out.size) v1 ([1] ++ p) rfl P1.out _ rfl q (sl_range HQ.out (lf_q HP.out (range_below RX.out B1.out (by have := SU.out; omega))) (Nat.lt_of_lt_of_le (by have := SU.out; omega) B1.out.size)) (by have q1 := HLP.out; have q2 := HLQ.out; simp; omega) ?_; intro v2 w2 h1 h2 h3 h4; have O2 : Hid (Ow U.heap.size w2 v2 ([1] ++ p ++ q)) := h1; have B2 : Hid (Below U.heap.size U w2) := B1.out.trans h3; clear h1 h2 h3 h4)
    | (at_builtin; refine app_u8 (B0 := U.heap.size) rfl (.tmp 4) (.tmp 6) rfl (BA.out.size) _ [1] rfl O1.out _ rfl p (sl_range HP.out (lf_p (range_below RX.out BA.out (by have := SU.out; omega))) (Nat.lt_of_lt_of_le (by have := SU.out; omega) BA.out.size)) (by have q1 := HLP.out; simp; omega) ?_; intro v1 w1 h1 h2 h3 h4; have P1 : Hid (Ow U.heap.size w1 v1 ([1] ++ p)) := h1; have B1 : Hid (Below U.heap.size U w1) := BA.out.trans h3; clear h1 h2 h3 h4))
  have R2 : Hid (w2.rangeAt D 0 (lf p q)) := range_below RX.out B2.out (by have := SU.out; omega)
  have Z2 : Hid (D < w2.heap.size) := Nat.lt_of_lt_of_le (by have := SU.out; omega) B2.out.size
  have Z3 : Hid (D + 1 < w2.heap.size) := Nat.lt_of_lt_of_le (by have := SU.out; omega) B2.out.size
  have T2 : Hid (Tb w2) := TU.out.below B2.out
  have RZ2 : Hid (w2.heap[D + 1]? = some (.cells Z 33 (0, 0))) := (B2.out.block _ (by have := SU.out; omega)).trans RZ.out
  refine RU.wp_rgn' [5] (lf3f D p H v2) (fun _ => 0) (lfΩ w2 (D + 1) ⟨256, p, H⟩) (by kernel_rfl) (by kernel_rfl) (show Below w2.heap.size w2 _ from (Below.refl _ _).drew) ?_ ?_
  · refine ⟨?_, ?_, ?_, ?_, ?_, ?_, trivial⟩
    · refine RU.ObT.pure rfl rfl rfl (fun a V hf hp ev he hc W => ?_)
      have q1 : ev (.tmp 1) = .pointer (some ⟨D, 0, none⟩) := (he (.tmp 1)).trans (hf 1 rfl)
      simp only [List.getElem_toArray, List.getElem_cons_succ, List.getElem_cons_zero, execOp, Option.map_some, Option.map_none]; rw [q1]
      first | (go_simp; done) | (go_simp; rfl) | rfl
    · refine RU.ObT.silent rfl (fun a W k0 V hO hf hp hk => ?_)
      obtain rfl : k0 = 0 := Nat.le_zero.1 hk; have hO' : Below w2.heap.size w2 W := hO
      have q12 : a.eval (.tmp 12) = .pointer (some ⟨D, 0, none⟩) := hp 0 12 rfl
      exact RU.ob_op rfl (RU.wanted_none rfl) (wp_load_mid 25 (.tmp 12) rfl (D) (0) q12 (bv p) _ (range_below (lf_p R2.out) hO' Z2.out) Tryd.underlying25 rfl (size_l32 HP.out) ⟨rfl, hO⟩)
    · refine RU.ObT.pure rfl rfl rfl (fun a V hf hp ev he hc W => ?_)
      have q3 : ev (.tmp 3) = v2 := (he (.tmp 3)).trans (hf 3 rfl)
      simp only [List.getElem_toArray, List.getElem_cons_succ, List.getElem_cons_zero, execOp, Option.map_some, Option.map_none]; rw [q3]
      first | (go_simp; done) | (go_simp; rfl) | rfl
    · refine RU.ObT.silent rfl (fun a W k0 V hO hf hp hk => ?_)
      obtain rfl : k0 = 0 := Nat.le_zero.1 hk; have hO' : Below w2.heap.size w2 W := hO
      have e14 : a.eval (.tmp 14) = v2 := hp 2 14 rfl
      refine RU.ob_call (g := 37) (args := #[v2]) rfl (RU.wanted_none rfl) (fun ev he hc => ?_) ((HSU.out v2 W (T2.out.below hO') (O2.out.sq.below hO')).mono ?_)
      · have h14 := (he (.tmp 14)).trans e14
        have hfn := he (.func 37)
        simp only [List.getElem_toArray, List.getElem_cons_succ, List.getElem_cons_zero, execOp, Option.map_some, Option.map_none]
        simp only [resolve, invoke, Sem.run_bind, Sem.run_pure, Result.andThen_ok, List.map_toArray, List.map_cons, List.map_nil, h14, hfn, Act.eval, hc]
        rfl
      · rintro e' W2 ⟨rfl, hb2⟩
        exact ⟨_, rfl, rfl, (hO'.trans (hb2.mono hO'.size) : Below w2.heap.size w2 W2)⟩
    · refine RU.ObT.silent rfl (fun a W k0 V hO hf hp hk => ?_)
      have q13 : a.eval (.tmp 13) = .agg (bv p).toArray := hp 1 13 rfl
      have q15 : a.eval (.tmp 15) = .agg (bv H).toArray := hp 3 15 rfl
      refine RU.ob_val rfl (RU.wanted_none rfl) (fun ev he hc => ?_) ⟨rfl, hO⟩
      have e1 := (he (.tmp 13)).trans q13
      have e2 := (he (.tmp 15)).trans q15
      simp only [List.getElem_toArray, List.getElem_cons_succ, List.getElem_cons_zero, execOp, Sem.run_bind, List.map_toArray, List.map_cons, List.map_nil, hc, e1, e2, HBN.out W, Result.andThen_ok, Sem.run_pure]
      rfl
    · refine RU.ObT.loud (j := 0) rfl (fun a W V hO hf hp => ?_)
      have hO' : Below w2.heap.size w2 W := hO
      have q2 : a.eval (.tmp 2) = .pointer (some ⟨D + 1, 0, none⟩) := hf 2 rfl
      have q16 : a.eval (.tmp 16) = .agg (nc ⟨256, p, H⟩).toArray := hp 4 16 rfl
      have hth : W.there (D + 1) 0 65 := there_of_row' ((hO'.block _ Z3.out).trans RZ2.out) 0 65 (by omega)
      exact RU.ob_op rfl (RU.wanted_none rfl) (wp_store_mid 33 (.tmp 2) (.tmp 16) rfl (D + 1) 0 (nc ⟨256, p, H⟩).toArray q2 q16 (by rw [nc_size ⟨HP.out, HHL.out⟩]; exact hth) (by rw [List.size_toArray]; exact size_nc ⟨HP.out, HHL.out⟩) (nc_one _) ⟨_, rfl, by simp only [List.toList_toArray]; exact ⟨W, hO', rfl⟩⟩)
  intro W3 VW3 hOW3
  obtain ⟨W0, hW0, hWW⟩ := hOW3
  subst hWW
  have B3 : Hid (Below w2.heap.size w2 W0) := hW0
  clear hW0
  simp only [RU.lay, RU.val, RU.at', lf3f, Act.put]
  simp only [List.setIfInBounds_toArray, List.set_cons_succ, List.set_cons_zero]
  go_wp2_with fail
  have hth : W0.there (D + 1) 0 65 := there_of_row' ((B3.out.block _ Z3.out).trans RZ2.out) 0 65 (by omega)
  have qq : (W0.setCells (D + 1) 0 (nc ⟨256, p, H⟩)).rangeAt (D + 1) 0 (nc ⟨256, p, H⟩) := World.rangeAt_setCells_same _ _ _ _ (by rw [nc_length ⟨HP.out, HHL.out⟩]; exact hth)
  have hbl : Below w.heap.size w (W0.setCells (D + 1) 0 (nc ⟨256, p, H⟩)) := below_setCells (by rw [HD.out]; omega) _ _ (BU.out.trans ((B2.out.trans (B3.out.mono B2.out.size)).mono BU.out.size))
  refine bodyPost_ret (v := .agg (nc ⟨256, p, H⟩).toArray) ?_ rfl ⟨by rw [HJ.out], hbl⟩
  simp only [results, Tryd.results22]
  simp [Act.put, asAddr, run_loadVar_mid _ (D + 1) 0 33 (nc ⟨256, p, H⟩) _ qq Tryd.underlying33 rfl (size_nc ⟨HP.out, HHL.out⟩)]
end Go.Proofs.YtpojalbpekbfdabDoor
