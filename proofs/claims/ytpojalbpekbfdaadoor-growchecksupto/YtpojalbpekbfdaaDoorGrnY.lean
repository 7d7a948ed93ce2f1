/- Rows of 32 bytes each, of a call's own. -/
import Derived.Test.YtpojalbpekbfdaaDoorTroA
import Derived.Test.YtpojalbpekbfdaaDoorGrnN
namespace Go.Proofs.YtpojalbpekbfdaaDoor
open Go Go.RowKit
set_option linter.unusedSimpArgs false
set_option linter.unusedVariables false
set_option maxRecDepth 100000

theorem l32_cells {x : List Int} (h : L32 x) : (bv x).length = 32 := by rw [bv_length, h.len]
theorem ys_none (w : World) (ad : Option Addr) (cap : Nat) (h : ad = none → cap = 0) : YS w (.slice ad 0 cap) [] := ⟨ad, cap, rfl, Nat.zero_le _, .inl ⟨rfl, h⟩⟩
/-- All cells of nodes. -/
def ycs (l : List (List Int)) : List Value := l.flatMap bv
theorem ycs_length : ∀ {l : List (List Int)}, (∀ x ∈ l, L32 x) → (ycs l).length = l.length * 32
  | [], _ => rfl
  | a :: r, h => by
    have ih := ycs_length (l := r) (fun x hx => h x (List.mem_cons_of_mem _ hx))
    show (bv a ++ ycs r).length = _
    rw [List.length_append, ih, l32_cells (h a List.mem_cons_self), List.length_cons]
    omega
theorem ycs_one (l : List (List Int)) : ∀ u ∈ ycs l, u.oneCell' = true := by
  intro u hu
  obtain ⟨x, hx, hu⟩ := List.mem_flatMap.1 hu
  have h := bv_one' x
  rw [Array.all_eq_true] at h
  obtain ⟨i, hi, rfl⟩ := List.getElem_of_mem hu
  have := h i (by simpa using hi)
  simpa using this
/-- A cell of all cells is a cell of a node. -/
theorem ycs_get : ∀ {l : List (List Int)}, (∀ x ∈ l, L32 x) → ∀ (i j : Nat) (x : (List Int)), l[i]? = some x → j < 32 → (ycs l)[i * 32 + j]? = (bv x)[j]?
  | [], _, i, j, x, h, _ => by simp at h
  | a :: r, hk, i, j, x, h, hj => by
    show (bv a ++ ycs r)[i * 32 + j]? = _
    have ha := l32_cells (hk a List.mem_cons_self)
    cases i with
    | zero =>
      simp at h; subst h
      rw [Nat.zero_mul, Nat.zero_add, List.getElem?_append_left (by omega)]
    | succ i =>
      rw [List.getElem?_append_right (by omega), ha, show (i + 1) * 32 + j - 32 = i * 32 + j by omega]
      exact ycs_get (fun x hx => hk x (List.mem_cons_of_mem _ hx)) i j x (by simpa using h) hj
theorem ycs_at {w : World} {b o : Nat} {l : List (List Int)} (hk : ∀ x ∈ l, L32 x) (hm : ∀ (i : Nat) (x : (List Int)), l[i]? = some x → w.rangeAt b (o + i * 32) (bv x)) : ∀ j u, (ycs l)[j]? = some u → w.cell? ⟨b, o + j, none⟩ = some u := by
  intro j u hu
  have hj := (List.getElem?_eq_some_iff.1 hu).1
  rw [ycs_length hk] at hj
  have hi : j / 32 < l.length := by omega
  have e := ycs_get hk (j / 32) (j % 32) l[j / 32] (List.getElem?_eq_getElem hi) (by omega)
  have hd : j / 32 * 32 + j % 32 = j := by omega
  rw [hd, hu] at e
  have := hm (j / 32) _ (List.getElem?_eq_getElem hi) (j % 32) u e.symm
  rwa [show o + j / 32 * 32 + j % 32 = o + j by omega] at this
theorem info_32 : ∃ i z, Tryd.prog.info? 31 = some i ∧ i.zero = some z ∧ i.size = 32 ∧ i.bytes = 32 ∧ z.cells.size = 32 := by
  have h1 : (Tryd.prog.info? 31).map (·.size) = some 32 := by kernel_rfl
  have h2 : (Tryd.prog.info? 31).map (·.bytes) = some 32 := by kernel_rfl
  have h3 : (Tryd.prog.info? 31).bind (fun i => i.zero.map (·.cells.size)) = some 32 := by kernel_rfl
  cases hq : Tryd.prog.info? 31 with
  | none => rw [hq] at h1; cases h1
  | some i =>
    rw [hq] at h1 h2 h3
    cases hz : i.zero with
    | none => simp [hz] at h3
    | some z => exact ⟨i, z, rfl, hz, Option.some.inj h1, Option.some.inj h2, by simpa [hz] using h3⟩
/-- Nodes in a row of one's own. -/
theorem ys_row {w : World} {v : Value} {l : List (List Int)} (hk : ∀ x ∈ l, L32 x) {B : Nat} (h : w.ownsRow B 31 32 v l.length (ycs l)) : YS w v l := by
  have h' := h
  obtain ⟨h1, ⟨rfl, h2⟩ | ⟨g, cap, cur, rfl, -, hg, hnc, -, hcs, -⟩⟩ := h
  · have : l = [] := List.length_eq_zero_iff.1 h2
    subst this
    exact ⟨none, 0, rfl, Nat.le_refl _, .inl ⟨rfl, fun _ => rfl⟩⟩
  · refine ⟨_, cap, rfl, hnc, .inr ⟨g, 0, rfl, (Array.getElem?_eq_some_iff.1 hg).1, ?_⟩⟩
    intro i x hi j u hu
    have hx : x ∈ l := List.mem_of_getElem? hi
    have hj := (List.getElem?_eq_some_iff.1 hu).1
    rw [l32_cells (hk x hx)] at hj
    have := h'.cells (g := g) rfl (i * 32 + j) u (by rw [ycs_get hk i j x hi hj]; exact hu)
    rw [addr_add0] at this
    rwa [show 0 + i * 32 + j = 0 + (i * 32 + j) by omega]
theorem lit_noy (w : World) : (Instr.buildSlice 54 0 #[]).run Tryd.prog w = .ok (.slice (some ⟨w.heap.size, 0, none⟩) 0 0) (w.alloc (.cells #[] 31)) := by kernel_rfl
/-- Nodes behind none. -/
theorem app_ys (w : World) (l : List (List Int)) (hk : ∀ x ∈ l, L32 x) (hlen : l.length ≤ 4400000000000) (u : Value) (hu : YS w u l) :
    ∃ v' w', (Builtin.append_ #[54, 54] 54 #[.slice (some ⟨w.heap.size, 0, none⟩) 0 0, u]).run Tryd.prog (w.alloc (.cells #[] 31)) = .ok v' w' ∧ YS w' v' l ∧ Below w.heap.size w w' := by
  obtain ⟨i, z, hi, hz, hs, hb, hzs⟩ := info_32
  obtain ⟨W, hW⟩ : ∃ W, w.alloc (.cells #[] 31) = W := ⟨_, rfl⟩
  have hB : Below w.heap.size w W := by rw [← hW]; exact (Below.refl _ w).alloc (Nat.le_refl _) _
  have hh : W.heap[w.heap.size]? = some (.cells #[] 31 (0, 0)) := by rw [← hW]; show (w.heap.push _)[w.heap.size]? = _; simp
  have hS : w.heap.size < W.heap.size := (Array.getElem?_eq_some_iff.1 hh).1
  have hu2 : YS W u l := hu.below hB
  rw [hW]
  have ho : W.ownsRow w.heap.size 31 32 (.slice (some ⟨w.heap.size, 0, none⟩) 0 0) 0 [] := ⟨rfl, .inr ⟨w.heap.size, 0, _, rfl, Nat.le_refl _, hh, Nat.le_refl _, by unfold maxLen; omega, rfl, rfl⟩⟩
  have hbytes : ((0 + l.length) + (0 + l.length) / 4 + 192) * 32 ≤ 281474976710656 := Nat.le_trans (Nat.mul_le_mul_right 32 (show (0 + l.length) + (0 + l.length) / 4 + 192 ≤ 5500000000192 by omega)) (by decide)
  have fin : ∀ w', W.grownBy w' ((.slice (some ⟨w.heap.size, 0, none⟩) 0 0 : Value).ownBlock) → Below w.heap.size w w' := fun w' g => hB.grown g (Nat.le_of_lt hS) (fun b e => by cases e; exact Nat.le_refl _)
  obtain ⟨ad, cap, rfl, hc, ⟨rfl, hn⟩ | ⟨b, o, rfl, hlt, hm⟩⟩ := hu2
  · cases ad with
    | none =>
      obtain rfl := hn rfl
      exact ⟨_, _, run_append_owned_none (P := Tryd.prog) W w.heap.size _ _ _ i 32 Tryd.underlying54 hi _ 0 [] ho, ys_none _ _ _ (fun h => by cases h), hB⟩
    | some A =>
      obtain ⟨v', w', hr, h2, h3, -⟩ := run_append_own_wide (P := Tryd.prog) W w.heap.size 54 54 31 i z 32 32 Tryd.underlying54 hi hz hs hb hzs (by decide) _ 0 [] ho A 0 cap [] rfl (fun j u hu => by simp at hu) (fun _ h => by cases h) (by unfold maxLen; omega) (by decide) (Nat.le_of_lt hS)
      exact ⟨v', w', hr, ys_row (l := []) (fun x hx => by cases hx) h2, fin w' h3⟩
  · obtain ⟨v', w', hr, h2, h3, -⟩ := run_append_own_wide (P := Tryd.prog) W w.heap.size 54 54 31 i z 32 32 Tryd.underlying54 hi hz hs hb hzs (by decide) _ 0 [] ho ⟨b, o, none⟩ l.length cap (ycs l) (ycs_length hk) (fun j u hu => by rw [addr_add0]; exact ycs_at hk hm j u hu) (ycs_one l) (by unfold maxLen; omega) hbytes (Nat.le_of_lt hS)
    rw [Nat.zero_add, List.nil_append] at h2
    exact ⟨v', w', hr, ys_row hk h2, fin w' h3⟩
/-- Nodes in a row of the call's own, from the block B on. -/
def YO (B : Nat) (w : World) (v : Value) (l : List (List Int)) : Prop := w.ownsRow B 31 32 v l.length (ycs l) ∧ (∀ x ∈ l, L32 x) ∧ B ≤ w.heap.size
theorem YO.ys {B : Nat} {w : World} {v : Value} {l : List (List Int)} (h : YO B w v l) : YS w v l := ys_row h.2.1 h.1
theorem YO.alloc {B : Nat} {w : World} {v : Value} {l : List (List Int)} (h : YO B w v l) (o : Obj) : YO B (w.alloc o) v l := ⟨h.1.alloc o, h.2.1, by have := h.2.2; simp; omega⟩
theorem YO.nil (w : World) : YO w.heap.size w (.slice none 0 0) [] := ⟨World.ownsRow_nil _ _ _ _, (fun x hx => by cases hx), Nat.le_refl _⟩
theorem YO.nil' {B : Nat} {w : World} (hB : B ≤ w.heap.size) : YO B w (.slice none 0 0) [] := ⟨World.ownsRow_nil _ _ _ _, (fun x hx => by cases hx), hB⟩
theorem YO.below {B : Nat} {w w' : World} {v : Value} {l : List (List Int)} (h : YO B w v l) (hb : Below w.heap.size w w') : YO B w' v l := ⟨own_keep h.1 hb, h.2.1, Nat.le_trans h.2.2 hb.size⟩
theorem ycs_app (l m : List (List Int)) : ycs (l ++ m) = ycs l ++ ycs m := by simp [ycs]
/-- Nodes behind nodes of the call's own. -/
theorem app_yown {B : Nat} {w : World} {v u : Value} {l m : List (List Int)} (h : YO B w v l) (hkm : ∀ x ∈ m, L32 x) (hu : YS w u m) (hlen : l.length + m.length ≤ 4400000000000) :
    ∃ v' w', (Builtin.append_ #[54, 54] 54 #[v, u]).run Tryd.prog w = .ok v' w' ∧ YO B w' v' (l ++ m) ∧ Below B w w' ∧ w.grownBy w' v.ownBlock := by
  obtain ⟨i, z, hi, hz, hs, hb, hzs⟩ := info_32
  obtain ⟨ho, hkl, hB⟩ := h
  have hkk : ∀ x ∈ l ++ m, L32 x := fun x hx => by
    rcases List.mem_append.1 hx with q | q
    · exact hkl x q
    · exact hkm x q
  have hbytes : ((l.length + m.length) + (l.length + m.length) / 4 + 192) * 32 ≤ 281474976710656 := Nat.le_trans (Nat.mul_le_mul_right 32 (show (l.length + m.length) + (l.length + m.length) / 4 + 192 ≤ 5500000000192 by omega)) (by decide)
  have fin : ∀ w', w.grownBy w' v.ownBlock → Below B w w' := fun w' g => (Below.refl B w).grown g hB (fun k e => (ho.lt k e).1)
  obtain ⟨ad, cap, rfl, hc, ⟨rfl, hn⟩ | ⟨b, o, rfl, hlt, hm⟩⟩ := hu
  · cases ad with
    | none =>
      obtain rfl := hn rfl
      refine ⟨_, _, run_append_owned_none (P := Tryd.prog) w B _ _ _ i 32 Tryd.underlying54 hi _ _ _ ho, ?_, Below.refl _ _, ⟨rfl, rfl, rfl, Nat.le_refl _, fun _ _ _ => rfl⟩⟩
      rw [List.append_nil]; exact ⟨ho, hkl, hB⟩
    | some A =>
      obtain ⟨v', w', hr, h2, h3, -⟩ := run_append_own_wide (P := Tryd.prog) w B 54 54 31 i z 32 32 Tryd.underlying54 hi hz hs hb hzs (by decide) _ _ _ ho A 0 cap [] rfl (fun j u hu => by simp at hu) (fun _ h => by cases h) (by unfold maxLen; simp at hlen ⊢; omega) (by simpa using hbytes) hB
      rw [Nat.add_zero, List.append_nil] at h2
      refine ⟨v', w', hr, ?_, fin w' h3, h3⟩
      rw [List.append_nil]
      exact ⟨h2, hkl, Nat.le_trans hB h3.size⟩
  · obtain ⟨v', w', hr, h2, h3, -⟩ := run_append_own_wide (P := Tryd.prog) w B 54 54 31 i z 32 32 Tryd.underlying54 hi hz hs hb hzs (by decide) _ _ _ ho ⟨b, o, none⟩ m.length cap (ycs m) (ycs_length hkm) (fun j u hu => by rw [addr_add0]; exact ycs_at hkm hm j u hu) (ycs_one m) (by unfold maxLen; omega) hbytes hB
    refine ⟨v', w', hr, ⟨?_, hkk, Nat.le_trans hB h3.size⟩, fin w' h3, h3⟩
    rw [List.length_append, ycs_app]; exact h2
/-- append of nodes onto a row of the call's own, within a walk. -/
theorem wp_appy {ops : Array Oper} {rest : List Oper} {o : Oper} {a : Act} {w : World} {Q : Exit → Act → World → Prop} (hgd : o.guard = none) (s x : Operand) (ho : o.op = .call { callee := .builtin .append, args := #[s, x], argTypes := #[54, 54] }) (hT : o.type = 54)
    (B : Nat) (v u : Value) (l m : List (List Int)) (hs : a.eval s = v) (hx : a.eval x = u) (h0 : YO B w v l) (hkm : ∀ x ∈ m, L32 x) (hu : YS w u m) (hlen : l.length + m.length ≤ 4400000000000)
    (h : ∀ v' w', YO B w' v' (l ++ m) → Below B w w' → wpList Tryd.prog ops Q rest (a.put o.dst v') w') : wpList Tryd.prog ops Q (o :: rest) a w := by
  obtain ⟨v', w', hr, h1, h2, -⟩ := app_yown h0 hkm hu hlen
  exact wp_app_run hgd s x 54 ho 54 hT v u v' w' hs hx hr (h v' w' h1 h2)
theorem wp_appyg {ops : Array Oper} {rest : List Oper} {o : Oper} {a : Act} {w : World} {Q : Exit → Act → World → Prop} (hgd : o.guard = none) (s x : Operand) (ho : o.op = .call { callee := .builtin .append, args := #[s, x], argTypes := #[54, 54] }) (hT : o.type = 54)
    (B : Nat) (v u : Value) (l m : List (List Int)) (hs : a.eval s = v) (hx : a.eval x = u) (h0 : YO B w v l) (hkm : ∀ x ∈ m, L32 x) (hu : YS w u m) (hlen : l.length + m.length ≤ 4400000000000)
    (h : ∀ v' w', YO B w' v' (l ++ m) → Below B w w' → w.grownBy w' v.ownBlock → wpList Tryd.prog ops Q rest (a.put o.dst v') w') : wpList Tryd.prog ops Q (o :: rest) a w := by
  obtain ⟨v', w', hr, h1, h2, h3⟩ := app_yown h0 hkm hu hlen
  exact wp_app_run hgd s x 54 ho 54 hT v u v' w' hs hx hr (h v' w' h1 h2 h3)
end Go.Proofs.YtpojalbpekbfdaaDoor
/- RootOf of the package and of the reference. -/
namespace Go.Proofs.YtpojalbpekbfdaaDoor
open Go Go.RowKit
set_option linter.unusedSimpArgs false
set_option linter.unusedVariables false
set_option maxRecDepth 100000

/-- The root of leaves. -/
def RO (ls : List Lf) (R : List Int) (er : Int) : Prop := (okl ls ∧ R = rt (so ls) ∧ er = 0) ∨ (¬ okl ls ∧ R = z32 ∧ er = 1)
theorem ro_some (ls : List Lf) : ∃ R er, RO ls R er ∧ L32 R := by
  by_cases h : okl ls
  · exact ⟨_, _, .inl ⟨h, rfl, rfl⟩, rt_l32 _⟩
  · exact ⟨_, _, .inr ⟨h, rfl, rfl⟩, z32_l32⟩
set_option maxHeartbeats 4000000 in
theorem RootOf_any (ls : List Lf) (hk : ∀ x ∈ ls, x.Ok) (hlen : ls.length ≤ 2500000000000) (R : List Int) (er : Int) (hR : RO ls R er) (v : Value) (w : World) (hv : LS w v ls) (hT : Tb w) :
    Calls Tryd.prog 41 #[v] w fun e w' => e = .returned (.tuple #[.agg (bv R).toArray, .int .i64 er]) ∧ Below w.heap.size w w' := by
  have hz := zero_32
  rw [show List.replicate 32 (0 : Int) = z32 from rfl] at hz
  have rz : (w.alloc (.cells (bv z32).toArray 31)).heap[w.heap.size]? = some (.cells (bv z32).toArray 31 (0, 0)) := by show (w.heap.push _)[w.heap.size]? = _; simp
  have rl : Below w.heap.size w (w.alloc (.cells (bv z32).toArray 31)) := (Below.refl _ w).alloc (Nat.le_refl _) _
  have rs : (w.alloc (.cells (bv z32).toArray 31)).heap.size = w.heap.size + 1 := by simp
  have HBZ : Hid (∀ W : World, (Instr.build 31 #[]).run Tryd.prog W = .ok (.agg (bv z32).toArray) W) := build_32
  obtain ⟨Z, hZ⟩ : ∃ Z, (bv z32).toArray = Z := ⟨_, rfl⟩
  have hZs : Z.size = 32 := by rw [← hZ]; simp [bv, z32]
  rw [hZ] at hz rz rl rs
  have HZE : Hid ((bv z32).toArray = Z) := hZ
  rw [hZ] at HBZ
  clear hZ
  obtain ⟨U, hU⟩ : ∃ U, w.alloc (.cells Z 31) = U := ⟨_, rfl⟩
  rw [hU] at rz rl rs
  have BU : Hid (Below w.heap.size w U) := rl
  have VU : Hid (LS U v ls) := hv.below rl
  have TU : Hid (Tb U) := hT.below rl
  obtain ⟨D, hD⟩ : ∃ D, w.heap.size = D := ⟨_, rfl⟩
  have HD : Hid (w.heap.size = D) := hD
  rw [hD] at rz rs
  have HTH : Hid (∀ W : World, Below U.heap.size U W → W.there D 0 32) := fun w1 B1 => there_of_row' ((B1.block _ (by omega)).trans rz) 0 32 (by omega)
  rcases hR with ⟨ho, rfl, rfl⟩ | ⟨ho, rfl, rfl⟩
  · have HNY : Hid (Calls Tryd.prog 61 #[v] U fun e w' => ∃ v', e = .returned (.tuple #[v', .int .i64 0]) ∧ NS w' v' (so ls) ∧ Below U.heap.size U w') := leafNodes_yes ls hk hlen ho v U VU.out TU.out
    have HRT : Hid (∀ (v' : Value) (W : World), NS W v' (so ls) → Below U.heap.size U W → Calls Tryd.prog 52 #[v'] W fun e w' => e = .returned (.agg (bv (rt (so ls))).toArray) ∧ Below W.heap.size W w') := fun v' W n1 n2 => root_any (so ls) (so_rsn hk ho) (by rw [so_len ho]; omega) v' W n1 (TU.out.below n2)
    have HL : Hid (L32 (rt (so ls))) := rt_l32 _
    obtain ⟨R, hR⟩ : ∃ R, rt (so ls) = R := ⟨_, rfl⟩
    rw [hR] at HRT HL ⊢
    clear rz rl rs hT hR ho hv hk hlen
    go_enter Tryd.func41, Tryd.ntmps41
    go_upto_region 1 with (fail)
    try rw [hU]
    try rw [hD]
    clear hU hD hz
    go_wp2_with (first
      | (refine wpList_store_mid rfl 31 (.tmp 2) (.tmp 16) rfl D 0 (bv R).toArray rfl rfl (by rw [List.size_toArray, bv_length, HL.out.len]; exact HTH.out _ Cw2.out) (by rw [List.size_toArray]; exact size_l32 HL.out) (bv_one' _) ?_; simp only [List.toList_toArray])
      | (go_at_call 61; refine HNY.out.mono ?_; rintro e w1 ⟨v1, rfl, g1, g2⟩; have N1 : Hid (NS w1 v1 (so ls)) := g1; have Cw1 : Hid (Below U.heap.size U w1) := g2; clear g1 g2)
      | (go_at_call 52; refine (HRT.out v1 w1 N1.out Cw1.out).mono ?_; rintro e w2 ⟨rfl, g1⟩; have Cw2 : Hid (Below U.heap.size U w2) := Below.tr' Cw1.out g1; clear g1))
    have qq : (w2.setCells D 0 (bv R)).rangeAt D 0 (bv R) := World.rangeAt_setCells_same _ _ _ _ (by rw [bv_length, HL.out.len]; exact HTH.out _ Cw2.out)
    have hbl : Below w.heap.size w (w2.setCells D 0 (bv R)) := below_setCells (by have := HD.out; omega) _ _ (BU.out.trans (Cw2.out.mono BU.out.size))
    refine bodyPost_ret (v := .tuple #[.agg (bv R).toArray, .int .i64 0]) ?_ rfl ⟨rfl, hbl⟩
    simp only [results, Tryd.results41]
    simp [Act.put, asAddr, run_loadVar_mid _ D 0 31 (bv R) _ qq Tryd.underlying31 rfl (size_l32 HL.out)]
  · have HNN : Hid (Calls Tryd.prog 61 #[v] U fun e w' => e = .returned (.tuple #[.slice none 0 0, .int .i64 1]) ∧ Below U.heap.size U w') := leafNodes_no ls hk hlen ho v U VU.out TU.out
    clear rz rl rs hT ho hv hk hlen
    go_enter Tryd.func41, Tryd.ntmps41
    go_upto_region 1 with (fail)
    try rw [hU]
    try rw [hD]
    clear hU hD hz
    go_upto_region 3 with (go_at_call 61; refine HNN.out.mono ?_; rintro e w1 ⟨rfl, g2⟩; have Cw1 : Hid (Below U.heap.size U w1) := g2; clear g2)
    refine wp_region_list ?_
    refine wp_build0 31 rfl rfl _ (HBZ.out w1) ?_
    go_wp2_with (refine wpList_store_mid rfl 31 (.tmp 2) (.tmp 13) rfl D 0 (bv z32).toArray rfl (congrArg Value.agg HZE.out.symm) (by rw [List.size_toArray, bv_length, z32_l32.len]; exact HTH.out _ Cw1.out) (by rw [List.size_toArray]; exact size_l32 z32_l32) (bv_one' _) ?_; simp only [List.toList_toArray])
    have qq : (w1.setCells D 0 (bv z32)).rangeAt D 0 (bv z32) := World.rangeAt_setCells_same _ _ _ _ (by rw [bv_length, z32_l32.len]; exact HTH.out _ Cw1.out)
    have hbl : Below w.heap.size w (w1.setCells D 0 (bv z32)) := below_setCells (by have := HD.out; omega) _ _ (BU.out.trans (Cw1.out.mono BU.out.size))
    refine bodyPost_ret (v := .tuple #[.agg (bv z32).toArray, .int .i64 1]) ?_ rfl ⟨rfl, hbl⟩
    simp only [results, Tryd.results41]
    simp [Act.put, asAddr, run_loadVar_mid _ D 0 31 (bv z32) _ qq Tryd.underlying31 rfl (size_l32 z32_l32)]
set_option maxHeartbeats 4000000 in
theorem rRootOf_any (ls : List Lf) (hk : ∀ x ∈ ls, x.Ok) (hlen : ls.length ≤ 2500000000000) (R : List Int) (er : Int) (hR : RO ls R er) (v : Value) (w : World) (hv : LS w v ls) :
    Calls Tryd.prog 38 #[v] w fun e w' => e = .returned (.tuple #[.agg (bv R).toArray, .int .i64 er]) ∧ Below w.heap.size w w' := by
  have hz := zero_32
  rw [show List.replicate 32 (0 : Int) = z32 from rfl] at hz
  have rz : (w.alloc (.cells (bv z32).toArray 31)).heap[w.heap.size]? = some (.cells (bv z32).toArray 31 (0, 0)) := by show (w.heap.push _)[w.heap.size]? = _; simp
  have rl : Below w.heap.size w (w.alloc (.cells (bv z32).toArray 31)) := (Below.refl _ w).alloc (Nat.le_refl _) _
  have rs : (w.alloc (.cells (bv z32).toArray 31)).heap.size = w.heap.size + 1 := by simp
  have HBZ : Hid (∀ W : World, (Instr.build 31 #[]).run Tryd.prog W = .ok (.agg (bv z32).toArray) W) := build_32
  obtain ⟨Z, hZ⟩ : ∃ Z, (bv z32).toArray = Z := ⟨_, rfl⟩
  have hZs : Z.size = 32 := by rw [← hZ]; simp [bv, z32]
  rw [hZ] at hz rz rl rs
  have HZE : Hid ((bv z32).toArray = Z) := hZ
  rw [hZ] at HBZ
  clear hZ
  obtain ⟨U, hU⟩ : ∃ U, w.alloc (.cells Z 31) = U := ⟨_, rfl⟩
  rw [hU] at rz rl rs
  have BU : Hid (Below w.heap.size w U) := rl
  have VU : Hid (LS U v ls) := hv.below rl
  obtain ⟨D, hD⟩ : ∃ D, w.heap.size = D := ⟨_, rfl⟩
  have HD : Hid (w.heap.size = D) := hD
  rw [hD] at rz rs
  have HTH : Hid (∀ W : World, Below U.heap.size U W → W.there D 0 32) := fun w1 B1 => there_of_row' ((B1.block _ (by omega)).trans rz) 0 32 (by omega)
  rcases hR with ⟨ho, rfl, rfl⟩ | ⟨ho, rfl, rfl⟩
  · have HNY : Hid (Calls Tryd.prog 24 #[v] U fun e w' => ∃ v', e = .returned (.tuple #[v', .bool true]) ∧ NS w' v' (so ls) ∧ Below U.heap.size U w') := rNodes_yes ls hk hlen ho v U VU.out
    have HRT : Hid (∀ (v' : Value) (W : World), NS W v' (so ls) → Below U.heap.size U W → Calls Tryd.prog 16 #[v'] W fun e w' => e = .returned (.tuple #[.agg (bv (rt (so ls))).toArray, .int .i64 0]) ∧ Below W.heap.size W w') := fun v' W n1 n2 => (by have := rRoot_any (so ls) (so_ok hk ho) (by rw [so_len ho]; omega) v' W n1; rw [(so_spec ho).2, if_pos rfl, if_pos rfl] at this; exact this)
    have HL : Hid (L32 (rt (so ls))) := rt_l32 _
    obtain ⟨R, hR⟩ : ∃ R, rt (so ls) = R := ⟨_, rfl⟩
    rw [hR] at HRT HL ⊢
    clear rz rl rs hR ho hv hk hlen
    go_enter Tryd.func38, Tryd.ntmps38
    go_upto_region 1 with (fail)
    try rw [hU]
    try rw [hD]
    clear hU hD hz
    go_wp2_with (first
      | (refine wpList_store_mid rfl 31 (.tmp 2) (.tmp 16) rfl D 0 (bv R).toArray rfl rfl (by rw [List.size_toArray, bv_length, HL.out.len]; exact HTH.out _ Cw2.out) (by rw [List.size_toArray]; exact size_l32 HL.out) (bv_one' _) ?_; simp only [List.toList_toArray])
      | (go_at_call 24; refine HNY.out.mono ?_; rintro e w1 ⟨v1, rfl, g1, g2⟩; have N1 : Hid (NS w1 v1 (so ls)) := g1; have Cw1 : Hid (Below U.heap.size U w1) := g2; clear g1 g2)
      | (go_at_call 16; refine (HRT.out v1 w1 N1.out Cw1.out).mono ?_; rintro e w2 ⟨rfl, g1⟩; have Cw2 : Hid (Below U.heap.size U w2) := Below.tr' Cw1.out g1; clear g1))
    have qq : (w2.setCells D 0 (bv R)).rangeAt D 0 (bv R) := World.rangeAt_setCells_same _ _ _ _ (by rw [bv_length, HL.out.len]; exact HTH.out _ Cw2.out)
    have hbl : Below w.heap.size w (w2.setCells D 0 (bv R)) := below_setCells (by have := HD.out; omega) _ _ (BU.out.trans (Cw2.out.mono BU.out.size))
    refine bodyPost_ret (v := .tuple #[.agg (bv R).toArray, .int .i64 0]) ?_ rfl ⟨rfl, hbl⟩
    simp only [results, Tryd.results38]
    simp [Act.put, asAddr, run_loadVar_mid _ D 0 31 (bv R) _ qq Tryd.underlying31 rfl (size_l32 HL.out)]
  · have HNN : Hid (Calls Tryd.prog 24 #[v] U fun e w' => e = .returned (.tuple #[.slice none 0 0, .bool false]) ∧ Below U.heap.size U w') := rNodes_no ls hk hlen ho v U VU.out
    clear rz rl rs ho hv hk hlen
    go_enter Tryd.func38, Tryd.ntmps38
    go_upto_region 1 with (fail)
    try rw [hU]
    try rw [hD]
    clear hU hD hz
    go_upto_region 3 with (go_at_call 24; refine HNN.out.mono ?_; rintro e w1 ⟨rfl, g2⟩; have Cw1 : Hid (Below U.heap.size U w1) := g2; clear g2)
    refine wp_region_list ?_
    refine wp_build0 31 rfl rfl _ (HBZ.out w1) ?_
    go_wp2_with (refine wpList_store_mid rfl 31 (.tmp 2) (.tmp 13) rfl D 0 (bv z32).toArray rfl (congrArg Value.agg HZE.out.symm) (by rw [List.size_toArray, bv_length, z32_l32.len]; exact HTH.out _ Cw1.out) (by rw [List.size_toArray]; exact size_l32 z32_l32) (bv_one' _) ?_; simp only [List.toList_toArray])
    have qq : (w1.setCells D 0 (bv z32)).rangeAt D 0 (bv z32) := World.rangeAt_setCells_same _ _ _ _ (by rw [bv_length, z32_l32.len]; exact HTH.out _ Cw1.out)
    have hbl : Below w.heap.size w (w1.setCells D 0 (bv z32)) := below_setCells (by have := HD.out; omega) _ _ (BU.out.trans (Cw1.out.mono BU.out.size))
    refine bodyPost_ret (v := .tuple #[.agg (bv z32).toArray, .int .i64 1]) ?_ rfl ⟨rfl, hbl⟩
    simp only [results, Tryd.results38]
    simp [Act.put, asAddr, run_loadVar_mid _ D 0 31 (bv z32) _ qq Tryd.underlying31 rfl (size_l32 z32_l32)]
end Go.Proofs.YtpojalbpekbfdaaDoor
