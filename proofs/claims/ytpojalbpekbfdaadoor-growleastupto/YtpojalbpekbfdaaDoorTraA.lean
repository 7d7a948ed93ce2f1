/- Package tree: sorting nothing; RootOf of nothing. -/
import Derived.Test.YtpojalbpekbfdaaDoorTrjD
import Derived.Deep.DeepAppendWide
namespace Go.Proofs.YtpojalbpekbfdaaDoor
open Go Go.RowKit
set_option linter.unusedSimpArgs false
set_option linter.unusedVariables false
set_option maxRecDepth 100000

set_option maxHeartbeats 1000000 in
theorem insert_none (v c : Value) (w : World) : Calls Tryd.prog 74 #[v, .int .i64 0, .int .i64 0, c] w fun e w' => e = .returned (.tuple #[]) ∧ w' = w := by
  go_enter Tryd.func74, Tryd.ntmps74
  go_wp2
  refine wp_loop_rounds 1 ?_
  rw [rounds_succ]
  go_wp2
  go_end0
  exact ⟨rfl, rfl⟩
set_option maxHeartbeats 1000000 in
theorem pdq_none (v c : Value) (w : World) (k : Int) : Calls Tryd.prog 63 #[v, .int .i64 0, .int .i64 0, .int .i64 k, c] w fun e w' => e = .returned (.tuple #[]) ∧ w' = w := by
  go_enter Tryd.func63, Tryd.ntmps63
  go_wp2
  refine wp_loop_rounds 1 ?_
  rw [rounds_succ]
  go_wp2_with (go_at_call 74; refine (insert_none _ _ _).mono ?_; rintro e w1 ⟨rfl, rfl⟩)
  exact bodyPost_ret (v := .tuple #[]) (results_none Tryd.results63 _ _ _) rfl ⟨rfl, rfl⟩
set_option maxHeartbeats 1000000 in
theorem len64_none (w : World) : Calls Tryd.prog 83 #[.int .u64 0] w fun e w' => e = .returned (.int .i64 0) ∧ w' = w := by
  go_enter Tryd.func83, Tryd.ntmps83
  go_wp2
  go_ret
  refine ⟨?_, rfl⟩
  first | rfl | kernel_rfl
set_option maxHeartbeats 1000000 in
theorem len_none (w : World) : Calls Tryd.prog 64 #[.int .u64 0] w fun e w' => e = .returned (.int .i64 0) ∧ w' = w := by
  go_enter Tryd.func64, Tryd.ntmps64
  go_wp2_with (go_at_call 83; refine (len64_none _).mono ?_; rintro e w1 ⟨rfl, rfl⟩)
  go_ret
  exact ⟨rfl, rfl⟩
set_option maxHeartbeats 1000000 in
theorem sort_none (ad : Option Addr) (cap : Nat) (c : Value) (w : World) : Calls Tryd.prog 44 #[.slice ad 0 cap, c] w fun e w' => e = .returned (.tuple #[]) ∧ w' = w := by
  go_enter Tryd.func44, Tryd.ntmps44
  go_wp2_with (first
    | (go_at_call 64; refine (len_none _).mono ?_; rintro e w1 ⟨rfl, rfl⟩)
    | (go_at_call 63; refine (pdq_none _ _ _ _).mono ?_; rintro e w1 ⟨rfl, rfl⟩))
  go_end0
  exact ⟨rfl, rfl⟩
theorem apt_nil : apt [] = true := rfl
theorem ns_none (w : World) (ad : Option Addr) (cap : Nat) (h : ad = none → cap = 0) : NS w (.slice ad 0 cap) [] := ⟨ad, cap, rfl, Nat.zero_le _, .inl ⟨rfl, h⟩⟩
theorem make_none (w : World) : (Instr.makeSlice 24 (.int .i64 0) (.int .i64 0)).run Tryd.prog w = .ok (.slice (some ⟨w.heap.size, 0, none⟩) 0 0) (w.alloc (.cells #[] 44)) := by kernel_rfl
set_option maxHeartbeats 2000000 in
theorem leafNodes_none (w : World) : Calls Tryd.prog 61 #[.slice none 0 0] w fun e w' => ∃ ad, e = .returned (.tuple #[.slice (some ad) 0 0, .int .i64 0]) ∧ Below w.heap.size w w' := by
  have hmk := make_none
  have HB : Hid (Below w.heap.size w (w.alloc (.cells #[] 44))) := (Below.refl _ w).alloc (Nat.le_refl _) _
  have HAP : Hid (Calls Tryd.prog 28 #[.slice (some ⟨w.heap.size, 0, none⟩) 0 0] (w.alloc (.cells #[] 44)) fun e w' => e = .returned (.bool true) ∧ Below (w.alloc (.cells #[] 44)).heap.size (w.alloc (.cells #[] 44)) w') := Apart_any [] (fun x hx => by cases hx) _ _ (ns_none _ _ _ (fun h => by cases h)) (by simp)
  go_enter Tryd.func61, Tryd.ntmps61
  go_wp2_with fail
  refine wp_loop_rounds 1 ?_
  rw [rounds_succ]
  go_wp2_with (first
    | (go_at_call 44; refine (sort_none _ _ _ _).mono ?_; rintro e w1 ⟨rfl, rfl⟩)
    | (go_at_call 28; refine HAP.out.mono ?_; rintro e w2 ⟨rfl, g1⟩; have B2 : Hid (Below w.heap.size w w2) := HB.out.trans (g1.mono HB.out.size); clear g1))
  go_ret2
  exact ⟨_, rfl, B2.out⟩
theorem rsn_nil : Rsn [] := ⟨⟨(fun x hx => by cases hx), List.Pairwise.nil⟩, (fun x hx => by cases hx), (fun x hx => by cases hx)⟩
set_option maxHeartbeats 2000000 in
theorem RootOf_none (w : World) (hT : Tb w) : Calls Tryd.prog 41 #[.slice none 0 0] w fun e w' => e = .returned (.tuple #[.agg (bv (hs [0])).toArray, .int .i64 0]) ∧ Below w.heap.size w w' := by
  have hz := zero_32
  rw [show List.replicate 32 (0 : Int) = z32 from rfl] at hz
  have rz : (w.alloc (.cells (bv z32).toArray 31)).heap[w.heap.size]? = some (.cells (bv z32).toArray 31 (0, 0)) := by show (w.heap.push _)[w.heap.size]? = _; simp
  have rl : Below w.heap.size w (w.alloc (.cells (bv z32).toArray 31)) := (Below.refl _ w).alloc (Nat.le_refl _) _
  have rs : (w.alloc (.cells (bv z32).toArray 31)).heap.size = w.heap.size + 1 := by simp
  obtain ⟨Z, hZ⟩ : ∃ Z, (bv z32).toArray = Z := ⟨_, rfl⟩
  have hZs : Z.size = 32 := by rw [← hZ]; simp [bv, z32]
  rw [hZ] at hz rz rl rs
  clear hZ
  obtain ⟨U, hU⟩ : ∃ U, w.alloc (.cells Z 31) = U := ⟨_, rfl⟩
  rw [hU] at rz rl rs
  have BU : Hid (Below w.heap.size w U) := rl
  have TU : Hid (Tb U) := hT.below rl
  obtain ⟨D, hD⟩ : ∃ D, w.heap.size = D := ⟨_, rfl⟩
  have HD : Hid (w.heap.size = D) := hD
  rw [hD] at rz rs
  have RZ : Hid (U.heap[D]? = some (.cells Z 31 (0, 0))) := rz
  have SU : Hid (U.heap.size = D + 1) := rs
  obtain ⟨H, hH⟩ : ∃ H, hs [0] = H := ⟨_, rfl⟩
  have HL : Hid (L32 H) := by rw [← hH]; exact hs_l32 _
  have HRT : Hid (∀ (ad : Addr) (W : World), Tb W → Calls Tryd.prog 52 #[.slice (some ad) 0 0] W fun e w' => e = .returned (.agg (bv H).toArray) ∧ Below W.heap.size W w') := fun ad W q => by
    have := root_any [] rsn_nil (by simp) (.slice (some ad) 0 0) W (ns_none _ _ _ (fun h => by cases h)) q
    rw [show rt [] = hs [0] from rfl, hH] at this; exact this
  rw [hH]
  clear rz rl rs hT hH
  go_enter Tryd.func41, Tryd.ntmps41
  go_upto_region 1 with (fail)
  try rw [hU]
  try rw [hD]
  clear hU hD hz
  go_wp2_with (first
    | (go_at_call 61; refine (leafNodes_none U).mono ?_; rintro e w1 ⟨ad, rfl, g1⟩; have B1 : Hid (Below U.heap.size U w1) := g1; clear g1)
    | (go_at_call 52; refine (HRT.out _ w1 (TU.out.below B1.out)).mono ?_; rintro e w2 ⟨rfl, g1⟩; have B2 : Hid (Below U.heap.size U w2) := B1.out.trans (g1.mono B1.out.size); clear g1)
    | (refine wpList_store_mid rfl 31 (.tmp 2) (.tmp 16) rfl D 0 (bv H).toArray rfl rfl (by rw [List.size_toArray, bv_length, HL.out.len]; exact there_of_row' ((B2.out.block _ (by have := SU.out; omega)).trans RZ.out) 0 32 (by omega)) (by rw [List.size_toArray]; exact size_l32 HL.out) (bv_one' _) ?_; simp only [List.toList_toArray]))
  have qq : (w2.setCells D 0 (bv H)).rangeAt D 0 (bv H) := World.rangeAt_setCells_same _ _ _ _ (by rw [bv_length, HL.out.len]; exact there_of_row' ((B2.out.block _ (by have := SU.out; omega)).trans RZ.out) 0 32 (by omega))
  have hbl : Below w.heap.size w (w2.setCells D 0 (bv H)) := below_setCells (by rw [HD.out]; exact Nat.le_refl _) _ _ (BU.out.trans (B2.out.mono BU.out.size))
  refine bodyPost_ret (v := .tuple #[.agg (bv H).toArray, .int .i64 0]) ?_ rfl ⟨rfl, hbl⟩
  simp only [results, Tryd.results41]
  simp [Act.put, asAddr, run_loadVar_mid _ D 0 31 (bv H) _ qq Tryd.underlying31 rfl (size_l32 HL.out)]
end Go.Proofs.YtpojalbpekbfdaaDoor
/- Package tree: copyNodes of the law. -/
namespace Go.Proofs.YtpojalbpekbfdaaDoor
open Go Go.RowKit
set_option linter.unusedSimpArgs false
set_option linter.unusedVariables false
set_option maxRecDepth 100000

/-- All cells of nodes. -/
def ncs (l : List Nd) : List Value := l.flatMap nc
theorem ncs_length : ∀ {l : List Nd}, (∀ x ∈ l, x.Ok) → (ncs l).length = l.length * 65
  | [], _ => rfl
  | a :: r, h => by
    have ih := ncs_length (l := r) (fun x hx => h x (List.mem_cons_of_mem _ hx))
    show (nc a ++ ncs r).length = _
    rw [List.length_append, ih, nc_length (h a List.mem_cons_self), List.length_cons]
    omega
theorem ncs_one (l : List Nd) : ∀ u ∈ ncs l, u.oneCell' = true := by
  intro u hu
  obtain ⟨x, hx, hu⟩ := List.mem_flatMap.1 hu
  have h := nc_one x
  rw [Array.all_eq_true] at h
  obtain ⟨i, hi, rfl⟩ := List.getElem_of_mem hu
  have := h i (by simpa using hi)
  simpa using this
/-- A cell of all cells is a cell of a node. -/
theorem ncs_get : ∀ {l : List Nd}, (∀ x ∈ l, x.Ok) → ∀ (i j : Nat) (x : Nd), l[i]? = some x → j < 65 → (ncs l)[i * 65 + j]? = (nc x)[j]?
  | [], _, i, j, x, h, _ => by simp at h
  | a :: r, hk, i, j, x, h, hj => by
    show (nc a ++ ncs r)[i * 65 + j]? = _
    have ha := nc_length (hk a List.mem_cons_self)
    cases i with
    | zero =>
      simp at h; subst h
      rw [Nat.zero_mul, Nat.zero_add, List.getElem?_append_left (by omega)]
    | succ i =>
      rw [List.getElem?_append_right (by omega), ha, show (i + 1) * 65 + j - 65 = i * 65 + j by omega]
      exact ncs_get (fun x hx => hk x (List.mem_cons_of_mem _ hx)) i j x (by simpa using h) hj
theorem ncs_at {w : World} {b o : Nat} {l : List Nd} (hk : ∀ x ∈ l, x.Ok) (hm : ∀ (i : Nat) (x : Nd), l[i]? = some x → w.rangeAt b (o + i * 65) (nc x)) : ∀ j u, (ncs l)[j]? = some u → w.cell? ⟨b, o + j, none⟩ = some u := by
  intro j u hu
  have hj := (List.getElem?_eq_some_iff.1 hu).1
  rw [ncs_length hk] at hj
  have hi : j / 65 < l.length := by omega
  have e := ncs_get hk (j / 65) (j % 65) l[j / 65] (List.getElem?_eq_getElem hi) (by omega)
  have hd : j / 65 * 65 + j % 65 = j := by omega
  rw [hd, hu] at e
  have := hm (j / 65) _ (List.getElem?_eq_getElem hi) (j % 65) u e.symm
  rwa [show o + j / 65 * 65 + j % 65 = o + j by omega] at this
theorem info_nd : ∃ i z, Tryd.prog.info? 44 = some i ∧ i.zero = some z ∧ i.size = 65 ∧ i.bytes = 72 ∧ z.cells.size = 65 := by
  have h1 : (Tryd.prog.info? 44).map (·.size) = some 65 := by kernel_rfl
  have h2 : (Tryd.prog.info? 44).map (·.bytes) = some 72 := by kernel_rfl
  have h3 : (Tryd.prog.info? 44).bind (fun i => i.zero.map (·.cells.size)) = some 65 := by kernel_rfl
  cases hq : Tryd.prog.info? 44 with
  | none => rw [hq] at h1; cases h1
  | some i =>
    rw [hq] at h1 h2 h3
    cases hz : i.zero with
    | none => simp [hz] at h3
    | some z => exact ⟨i, z, rfl, hz, Option.some.inj h1, Option.some.inj h2, by simpa [hz] using h3⟩
/-- Nodes in a row of one's own. -/
theorem ns_row {w : World} {v : Value} {l : List Nd} (hk : ∀ x ∈ l, x.Ok) {B : Nat} (h : w.ownsRow B 44 65 v l.length (ncs l)) : NS w v l := by
  have h' := h
  obtain ⟨h1, ⟨rfl, h2⟩ | ⟨g, cap, cur, rfl, -, hg, hnc, -, hcs, -⟩⟩ := h
  · have : l = [] := List.length_eq_zero_iff.1 h2
    subst this
    exact ⟨none, 0, rfl, Nat.le_refl _, .inl ⟨rfl, fun _ => rfl⟩⟩
  · refine ⟨_, cap, rfl, hnc, .inr ⟨g, 0, rfl, (Array.getElem?_eq_some_iff.1 hg).1, ?_⟩⟩
    intro i x hi j u hu
    have hx : x ∈ l := List.mem_of_getElem? hi
    have hj := (List.getElem?_eq_some_iff.1 hu).1
    rw [nc_length (hk x hx)] at hj
    have := h'.cells (g := g) rfl (i * 65 + j) u (by rw [ncs_get hk i j x hi hj]; exact hu)
    rw [addr_add0] at this
    rwa [show 0 + i * 65 + j = 0 + (i * 65 + j) by omega]
theorem lit_none (w : World) : (Instr.buildSlice 24 0 #[]).run Tryd.prog w = .ok (.slice (some ⟨w.heap.size, 0, none⟩) 0 0) (w.alloc (.cells #[] 44)) := by kernel_rfl
/-- Nodes behind none. -/
theorem app_nodes (w : World) (l : List Nd) (hk : ∀ x ∈ l, x.Ok) (hlen : l.length ≤ 3000000000000) (u : Value) (hu : NS w u l) :
    ∃ v' w', (Builtin.append_ #[24, 24] 24 #[.slice (some ⟨w.heap.size, 0, none⟩) 0 0, u]).run Tryd.prog (w.alloc (.cells #[] 44)) = .ok v' w' ∧ NS w' v' l ∧ Below w.heap.size w w' := by
  obtain ⟨i, z, hi, hz, hs, hb, hzs⟩ := info_nd
  obtain ⟨W, hW⟩ : ∃ W, w.alloc (.cells #[] 44) = W := ⟨_, rfl⟩
  have hB : Below w.heap.size w W := by rw [← hW]; exact (Below.refl _ w).alloc (Nat.le_refl _) _
  have hh : W.heap[w.heap.size]? = some (.cells #[] 44 (0, 0)) := by rw [← hW]; show (w.heap.push _)[w.heap.size]? = _; simp
  have hS : w.heap.size < W.heap.size := (Array.getElem?_eq_some_iff.1 hh).1
  have hu2 : NS W u l := hu.below hB
  rw [hW]
  have ho : W.ownsRow w.heap.size 44 65 (.slice (some ⟨w.heap.size, 0, none⟩) 0 0) 0 [] := ⟨rfl, .inr ⟨w.heap.size, 0, _, rfl, Nat.le_refl _, hh, Nat.le_refl _, by unfold maxLen; omega, rfl, rfl⟩⟩
  have hbytes : ((0 + l.length) + (0 + l.length) / 4 + 192) * 72 ≤ 281474976710656 := Nat.le_trans (Nat.mul_le_mul_right 72 (show (0 + l.length) + (0 + l.length) / 4 + 192 ≤ 3750000000192 by omega)) (by decide)
  have fin : ∀ w', W.grownBy w' ((.slice (some ⟨w.heap.size, 0, none⟩) 0 0 : Value).ownBlock) → Below w.heap.size w w' := fun w' g => hB.grown g (Nat.le_of_lt hS) (fun b e => by cases e; exact Nat.le_refl _)
  obtain ⟨ad, cap, rfl, hc, ⟨rfl, hn⟩ | ⟨b, o, rfl, hlt, hm⟩⟩ := hu2
  · cases ad with
    | none =>
      obtain rfl := hn rfl
      exact ⟨_, _, run_append_owned_none (P := Tryd.prog) W w.heap.size _ _ _ i 65 Tryd.underlying24 hi _ 0 [] ho, ns_none _ _ _ (fun h => by cases h), hB⟩
    | some A =>
      obtain ⟨v', w', hr, h2, h3, -⟩ := run_append_own_wide (P := Tryd.prog) W w.heap.size 24 24 44 i z 65 72 Tryd.underlying24 hi hz hs hb hzs (by decide) _ 0 [] ho A 0 cap [] rfl (fun j u hu => by simp at hu) (fun _ h => by cases h) (by unfold maxLen; omega) (by decide) (Nat.le_of_lt hS)
      exact ⟨v', w', hr, ns_row (l := []) (fun x hx => by cases hx) h2, fin w' h3⟩
  · obtain ⟨v', w', hr, h2, h3, -⟩ := run_append_own_wide (P := Tryd.prog) W w.heap.size 24 24 44 i z 65 72 Tryd.underlying24 hi hz hs hb hzs (by decide) _ 0 [] ho ⟨b, o, none⟩ l.length cap (ncs l) (ncs_length hk) (fun j u hu => by rw [addr_add0]; exact ncs_at hk hm j u hu) (ncs_one l) (by unfold maxLen; omega) hbytes (Nat.le_of_lt hS)
    rw [Nat.zero_add, List.nil_append] at h2
    exact ⟨v', w', hr, ns_row hk h2, fin w' h3⟩
/-- append whose run is known. -/
theorem wp_app_run {P : Program} {ops : Array Oper} {rest : List Oper} {o : Oper} {a : Act} {w : World} {Q : Exit → Act → World → Prop} (hgd : o.guard = none) (s x : Operand) (t : TypeId) (ho : o.op = .call { callee := .builtin .append, args := #[s, x], argTypes := #[t, t] })
    (T : TypeId) (hT : o.type = T) (v u v' : Value) (w' : World) (hs : a.eval s = v) (hx : a.eval x = u) (hr : (Builtin.append_ #[t, t] T #[v, u]).run P w = .ok v' w') (h : wpList P ops Q rest (a.put o.dst v') w') : wpList P ops Q (o :: rest) a w := by
  subst hT
  refine wpList_plain hgd fun K hK => ?_
  unfold Oper.wp execOp
  simp only [ho, resolve, invoke, builtin, Sem.run_bind, Sem.run_pure, Result.andThen_ok, List.map_toArray, List.map_cons, List.map_nil, hs, hx, hr]
  exact hK _ _ h
set_option maxHeartbeats 1000000 in
theorem copyNodes_any (l : List Nd) (hk : ∀ x ∈ l, x.Ok) (hlen : l.length ≤ 3000000000000) (v : Value) (w : World) (hv : NS w v l) :
    Calls Tryd.prog 14 #[v] w fun e w' => ∃ v', e = .returned v' ∧ NS w' v' l ∧ Below w.heap.size w w' := by
  have hl := lit_none w
  obtain ⟨v', w', hr, h1, h2⟩ := app_nodes w l hk hlen v hv
  have H1 : Hid (NS w' v' l) := h1
  have H2 : Hid (Below w.heap.size w w') := h2
  obtain ⟨ad, cap, rfl, -, -⟩ := hv
  obtain ⟨n, hn⟩ : ∃ n, l.length = n := ⟨_, rfl⟩
  rw [hn] at hr ⊢
  have HR : Hid ((Builtin.append_ #[24, 24] 24 #[.slice (some ⟨w.heap.size, 0, none⟩) 0 0, .slice ad n cap]).run Tryd.prog (w.alloc (.cells #[] 44)) = .ok v' w') := hr
  clear hk hlen h1 h2 hn hr
  go_enter Tryd.func14, Tryd.ntmps14
  go_wp2_with (at_builtin; refine wp_app_run rfl (.tmp 3) (.tmp 4) 24 rfl 24 rfl (.slice (some ⟨w.heap.size, 0, none⟩) 0 0) (.slice ad n cap) v' w' rfl rfl HR.out ?_)
  go_ret
  exact ⟨_, rfl, H1.out, H2.out⟩
end Go.Proofs.YtpojalbpekbfdaaDoor
