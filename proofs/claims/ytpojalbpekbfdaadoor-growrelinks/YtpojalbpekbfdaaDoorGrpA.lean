/- Two rows of leaves of a call's own side by side; links. -/
import Derived.Test.YtpojalbpekbfdaaDoorTrlA
import Derived.Test.YtpojalbpekbfdaaDoorTrsC
import Derived.Test.YtpojalbpekbfdaaDoorTrsB
import Derived.Lib.AppendZeros
namespace Go.Proofs.YtpojalbpekbfdaaDoor
open Go Go.RowKit
set_option linter.unusedSimpArgs false
set_option linter.unusedVariables false
set_option maxRecDepth 100000

theorem nextcap_le {need old : Nat} (h : old < need) : Builtin.nextslicecap need old ≤ need + need / 4 + 192 := by
  unfold Builtin.nextslicecap
  split
  · omega
  · split
    · omega
    · rw [growBy_four]
      repeat' split
      all_goals omega
theorem app_where {P : Program} (w : World) (base : Nat) (t ty e : TypeId) (i : TypeInfo) (z : Value) (size bytes : Nat) (ht : P.underlying t = some (.slice e)) (hi : P.info? e = some i) (hz : i.zero = some z)
    (hsize : i.size = size) (hby : i.bytes = bytes) (v : Value) (n : Nat) (xs : List Value) (hown : w.ownsRow base e size v n xs)
    (a : Addr) (m c : Nat) (news : List Value) (hl : news.length = m * size) (hnews : ∀ j u, news[j]? = some u → w.cell? (a.add j) = some u) (h1 : ∀ u ∈ news, u.oneCell' = true) (hm : 0 < m)
    (h63 : n + m ≤ maxLen) (hbytes : ((n + m) + (n + m) / 4 + 192) * bytes ≤ 281474976710656) {v' : Value} {w' : World}
    (h : (Builtin.append_ #[t, t] ty #[v, .slice (some a) m c]).run P w = .ok v' w') : v'.ownBlock = v.ownBlock ∨ v'.ownBlock = some w.heap.size := by
  subst hsize hby
  have hsmall : n + m ≤ 9223372036854775807 := by simp only [maxLen] at h63; omega
  rcases hown.2 with ⟨rfl, rfl⟩ | ⟨g, cap, cur, rfl, hbg, hg, hnc, hcm, hcs, htake⟩
  · have hr := run_append_nil (P := P) w t ty e i z ht hi hz a m c news hl hnews hm (by omega) (by have hb := hbytes; simp only [Nat.zero_add] at hb; exact Nat.le_trans (Nat.mul_le_mul_right _ (by omega)) hb)
    rw [hr] at h; cases h; exact .inr rfl
  · by_cases hroom : n + m ≤ cap
    · have hfit : n * i.size + news.length ≤ cur.size := by rw [hl, hcs, ← Nat.add_mul]; exact Nat.mul_le_mul_right _ hroom
      have hr := run_append_room (P := P) w t ty e i ht hi g n cap cur hg a m c news hl hnews h1 hroom hfit
      rw [hr] at h; cases h; exact .inl rfl
    · have holds : ∀ j u, xs[j]? = some u → w.cell? ((⟨g, 0, none⟩ : Addr).add j) = some u := hown.cells (g := g) rfl
      have hr := run_append_grow (P := P) w t ty e i z ht hi hz ⟨g, 0, none⟩ n cap xs hown.1 holds a m c news hl hnews (by omega) (by omega) (Nat.le_trans (Nat.mul_le_mul_right _ (nextcap_le (by omega))) hbytes)
      rw [hr] at h; cases h; exact .inr rfl
theorem app_lwhere {B : Nat} {w : World} {v u v' : Value} {w' : World} {l : List Lf} {x : Lf} (h : LO B w v l) (hx : x.Ok) (hu : LS w u [x]) (hlen : l.length + 1 ≤ 3000000000000)
    (hr : (Builtin.append_ #[22, 22] 22 #[v, u]).run Tryd.prog w = .ok v' w') : v'.ownBlock = v.ownBlock ∨ v'.ownBlock = some w.heap.size := by
  obtain ⟨i, z, hi, hz, hs, hb, hzs⟩ := info_lf
  obtain ⟨ho, hkl, hB⟩ := h
  have hkm : ∀ y ∈ [x], y.Ok := fun y hy => by simp at hy; subst hy; exact hx
  have hbytes : ((l.length + 1) + (l.length + 1) / 4 + 192) * 64 ≤ 281474976710656 := Nat.le_trans (Nat.mul_le_mul_right 64 (show (l.length + 1) + (l.length + 1) / 4 + 192 ≤ 3750000000192 by omega)) (by decide)
  obtain ⟨ad, cap, rfl, hc, ⟨h0, _⟩ | ⟨b, o, rfl, hlt, hm⟩⟩ := hu
  · cases h0
  · exact app_where (P := Tryd.prog) w B 22 22 46 i z 64 64 Tryd.underlying22 hi hz hs hb _ _ _ ho ⟨b, o, none⟩ 1 cap (lcs [x]) (lcs_length hkm) (fun j u hu => by rw [addr_add0]; exact lcs_at hkm hm j u hu) (lcs_one [x]) (by omega) (by unfold maxLen; omega) hbytes hr
/-- Two rows that lie apart. -/
structure Lp2 (B : Nat) (w : World) (a c : Value) (la lc : List Lf) : Prop where
  ra : LO B w a la
  rc : LO B w c lc
  ne : a.ownBlock = none ∨ a.ownBlock ≠ c.ownBlock
theorem Lp2.swap {B : Nat} {w : World} {a c : Value} {la lc : List Lf} (h : Lp2 B w a c la lc) : Lp2 B w c a lc la := by
  refine ⟨h.rc, h.ra, ?_⟩
  rcases h.ne with q | q
  · cases hc : c.ownBlock with
    | none => exact .inl rfl
    | some b => exact .inr (by rw [q]; simp)
  · exact .inr (fun e => q e.symm)
theorem Lp2.below {B : Nat} {w w' : World} {a c : Value} {la lc : List Lf} (h : Lp2 B w a c la lc) (hb : Below w.heap.size w w') : Lp2 B w' a c la lc := ⟨h.ra.below hb, h.rc.below hb, h.ne⟩
theorem Lp2.alloc {B : Nat} {w : World} {a c : Value} {la lc : List Lf} (h : Lp2 B w a c la lc) (o : Obj) : Lp2 B (w.alloc o) a c la lc := ⟨h.ra.alloc o, h.rc.alloc o, h.ne⟩
/-- One behind the second row; the first stays, and they stay apart. -/
theorem Lp2.push {B : Nat} {w : World} {a c u : Value} {la lc : List Lf} (h : Lp2 B w a c la lc) {x : Lf} (hx : x.Ok) (hu : LS w u [x]) (hlen : lc.length + 1 ≤ 3000000000000) :
    ∃ c' w', (Builtin.append_ #[22, 22] 22 #[c, u]).run Tryd.prog w = .ok c' w' ∧ Lp2 B w' a c' la (lc ++ [x]) ∧ Below B w w' ∧ w.grownBy w' c.ownBlock := by
  obtain ⟨c', w', hr, h1, h2, h3⟩ := app_lown h.rc (m := [x]) (fun z hz => by simp at hz; subst hz; exact hx) hu (by simpa using hlen)
  have ka : LO B w' a la := ⟨h.ra.1.kept h3 h.ne, h.ra.2.1, Nat.le_trans h.ra.2.2 h3.size⟩
  refine ⟨c', w', hr, ⟨ka, h1, ?_⟩, h2, h3⟩
  rcases app_lwhere h.rc hx hu hlen hr with q | q
  · rw [q]; exact h.ne
  · cases hab : a.ownBlock with
    | none => exact .inl rfl
    | some g =>
      refine .inr (fun e => ?_)
      rw [q] at e
      cases e
      exact absurd (h.ra.1.lt _ hab).2 (Nat.lt_irrefl _)
theorem make_lown (w : World) (n : Nat) (hn : n ≤ 3000000000000) :
    ∃ w', (Instr.makeSlice 22 (.int .i64 0) (.int .i64 (n : Int))).run Tryd.prog w = .ok (.slice (some ⟨w.heap.size, 0, none⟩) 0 n) w' ∧ LO w.heap.size w' (.slice (some ⟨w.heap.size, 0, none⟩) 0 n) [] ∧ Below w.heap.size w w' := by
  obtain ⟨i, z, hi, hz, hs, hb, hzs⟩ := info_lf
  obtain ⟨w', hr, h1, h2⟩ := run_make_own (P := Tryd.prog) w w.heap.size 22 46 i z 64 Tryd.underlying22 hi hz hs .i64 .i64 n (by rw [hb]; omega) (by unfold maxLen; omega) (Nat.le_refl _)
  exact ⟨w', hr, ⟨h1, (fun x hx => by cases hx), h2.size⟩, (Below.refl _ w).grown h2 (Nat.le_refl _) (fun k e => by cases e)⟩
/-- A link. -/
structure Lk where
  o : List Int
  n : List Int
  q : List Int
structure Lk.Ok (x : Lk) : Prop where
  o : L32 x.o
  n : L32 x.n
  q : L32 x.q
def lkc (x : Lk) : List Value := bv x.o ++ (bv x.n ++ bv x.q)
theorem lkc_length {x : Lk} (h : x.Ok) : (lkc x).length = 96 := by
  unfold lkc; rw [List.length_append, List.length_append, bv_length, bv_length, bv_length, h.o.len, h.n.len, h.q.len]
/-- The leaf of a link under its old label, and under its new one. -/
def lko (x : Lk) : Lf := ⟨x.o, x.q⟩
def lkn (x : Lk) : Lf := ⟨x.n, x.q⟩
theorem lko_ok {x : Lk} (h : x.Ok) : (lko x).Ok := ⟨h.o, h.q⟩
theorem lkn_ok {x : Lk} (h : x.Ok) : (lkn x).Ok := ⟨h.n, h.q⟩
/-- A slice that holds these leaves. -/
def KS (w : World) (v : Value) (l : List Lk) : Prop := ∃ ad cap, v = .slice ad l.length cap ∧ l.length ≤ cap ∧ ((l = [] ∧ (ad = none → cap = 0)) ∨ ∃ b o, ad = some ⟨b, o, none⟩ ∧ b < w.heap.size ∧ ∀ (i : Nat) (x : Lk), l[i]? = some x → w.rangeAt b (o + i * 96) (lkc x))
theorem KS.below {w w' : World} {v : Value} {l : List Lk} (h : KS w v l) (hb : Below w.heap.size w w') : KS w' v l := by
  obtain ⟨ad, cap, rfl, hc, h⟩ := h
  refine ⟨ad, cap, rfl, hc, ?_⟩
  rcases h with h | ⟨b, o, rfl, hlt, hm⟩
  · exact .inl h
  · exact .inr ⟨b, o, rfl, Nat.lt_of_lt_of_le hlt hb.size, fun i x hi => range_below (hm i x hi) hb hlt⟩
def lkz : Lk := ⟨z32, z32, z32⟩
theorem lkz_ok : lkz.Ok := ⟨z32_l32, z32_l32, z32_l32⟩
theorem zero_lk (w : World) : (zeroValue 49).run Tryd.prog w = .ok (.agg (lkc lkz).toArray) w := by kernel_rfl
theorem size_lk' : (Tryd.prog.info? 49).map (·.size) = some 96 := by kernel_rfl
theorem size_lkc {x : Lk} (h : x.Ok) : (Tryd.prog.info? 49).map (·.size) = some (lkc x).length := by rw [lkc_length h]; exact size_lk'
theorem lkc_all (x : Lk) : ∀ u ∈ lkc x, u.oneCell' = true := fun u hu => by
  unfold lkc at hu
  rcases List.mem_append.1 hu with hu | hu
  · exact bv_one _ u hu
  · rcases List.mem_append.1 hu with hu | hu
    · exact bv_one _ u hu
    · exact bv_one _ u hu
theorem lkc_one (x : Lk) : (lkc x).toArray.all (·.oneCell') = true := all_oneCell_toArray (lkc_all x)
theorem range_lk {w : World} {b o : Nat} {x : Lk} (hx : x.Ok) (h : w.rangeAt b o (lkc x)) : w.rangeAt b o (bv x.o) ∧ w.rangeAt b (o + 32) (bv x.n) ∧ w.rangeAt b (o + 64) (bv x.q) := by
  have l1 : (bv x.o).length = 32 := by rw [bv_length, hx.o.len]
  have l2 : (bv x.n).length = 32 := by rw [bv_length, hx.n.len]
  refine ⟨fun j u hu => ?_, fun j u hu => ?_, fun j u hu => ?_⟩
  · have hj := (List.getElem?_eq_some_iff.1 hu).1
    exact h j u (by unfold lkc; rw [List.getElem?_append_left hj]; exact hu)
  · have hj := (List.getElem?_eq_some_iff.1 hu).1
    have := h (32 + j) u (by unfold lkc; rw [List.getElem?_append_right (by omega), l1, Nat.add_sub_cancel_left, List.getElem?_append_left hj]; exact hu)
    rwa [show o + (32 + j) = o + 32 + j by omega] at this
  · have := h (64 + j) u (by unfold lkc; rw [List.getElem?_append_right (by omega), l1, List.getElem?_append_right (by omega), l2, show 64 + j - 32 - 32 = j by omega]; exact hu)
    rwa [show o + (64 + j) = o + 64 + j by omega] at this
theorem ks_none (w : World) (ad : Option Addr) (cap : Nat) (h : ad = none → cap = 0) : KS w (.slice ad 0 cap) [] := ⟨ad, cap, rfl, Nat.zero_le _, .inl ⟨rfl, h⟩⟩
/-- All cells of nodes. -/
def kcs (l : List Lk) : List Value := l.flatMap lkc
theorem kcs_length : ∀ {l : List Lk}, (∀ x ∈ l, x.Ok) → (kcs l).length = l.length * 96
  | [], _ => rfl
  | a :: r, h => by
    have ih := kcs_length (l := r) (fun x hx => h x (List.mem_cons_of_mem _ hx))
    show (lkc a ++ kcs r).length = _
    rw [List.length_append, ih, lkc_length (h a List.mem_cons_self), List.length_cons]
    omega
theorem kcs_one (l : List Lk) : ∀ u ∈ kcs l, u.oneCell' = true := by
  intro u hu
  obtain ⟨x, hx, hu⟩ := List.mem_flatMap.1 hu
  have h := lkc_one x
  rw [Array.all_eq_true] at h
  obtain ⟨i, hi, rfl⟩ := List.getElem_of_mem hu
  have := h i (by simpa using hi)
  simpa using this
/-- A cell of all cells is a cell of a node. -/
theorem kcs_get : ∀ {l : List Lk}, (∀ x ∈ l, x.Ok) → ∀ (i j : Nat) (x : Lk), l[i]? = some x → j < 96 → (kcs l)[i * 96 + j]? = (lkc x)[j]?
  | [], _, i, j, x, h, _ => by simp at h
  | a :: r, hk, i, j, x, h, hj => by
    show (lkc a ++ kcs r)[i * 96 + j]? = _
    have ha := lkc_length (hk a List.mem_cons_self)
    cases i with
    | zero =>
      simp at h; subst h
      rw [Nat.zero_mul, Nat.zero_add, List.getElem?_append_left (by omega)]
    | succ i =>
      rw [List.getElem?_append_right (by omega), ha, show (i + 1) * 96 + j - 96 = i * 96 + j by omega]
      exact kcs_get (fun x hx => hk x (List.mem_cons_of_mem _ hx)) i j x (by simpa using h) hj
theorem kcs_at {w : World} {b o : Nat} {l : List Lk} (hk : ∀ x ∈ l, x.Ok) (hm : ∀ (i : Nat) (x : Lk), l[i]? = some x → w.rangeAt b (o + i * 96) (lkc x)) : ∀ j u, (kcs l)[j]? = some u → w.cell? ⟨b, o + j, none⟩ = some u := by
  intro j u hu
  have hj := (List.getElem?_eq_some_iff.1 hu).1
  rw [kcs_length hk] at hj
  have hi : j / 96 < l.length := by omega
  have e := kcs_get hk (j / 96) (j % 96) l[j / 96] (List.getElem?_eq_getElem hi) (by omega)
  have hd : j / 96 * 96 + j % 96 = j := by omega
  rw [hd, hu] at e
  have := hm (j / 96) _ (List.getElem?_eq_getElem hi) (j % 96) u e.symm
  rwa [show o + j / 96 * 96 + j % 96 = o + j by omega] at this
theorem info_lk : ∃ i z, Tryd.prog.info? 49 = some i ∧ i.zero = some z ∧ i.size = 96 ∧ i.bytes = 96 ∧ z.cells.size = 96 := by
  have h1 : (Tryd.prog.info? 49).map (·.size) = some 96 := by kernel_rfl
  have h2 : (Tryd.prog.info? 49).map (·.bytes) = some 96 := by kernel_rfl
  have h3 : (Tryd.prog.info? 49).bind (fun i => i.zero.map (·.cells.size)) = some 96 := by kernel_rfl
  cases hq : Tryd.prog.info? 49 with
  | none => rw [hq] at h1; cases h1
  | some i =>
    rw [hq] at h1 h2 h3
    cases hz : i.zero with
    | none => simp [hz] at h3
    | some z => exact ⟨i, z, rfl, hz, Option.some.inj h1, Option.some.inj h2, by simpa [hz] using h3⟩
/-- Nodes in a row of one's own. -/
theorem ks_row {w : World} {v : Value} {l : List Lk} (hk : ∀ x ∈ l, x.Ok) {B : Nat} (h : w.ownsRow B 49 96 v l.length (kcs l)) : KS w v l := by
  have h' := h
  obtain ⟨h1, ⟨rfl, h2⟩ | ⟨g, cap, cur, rfl, -, hg, hnc, -, hcs, -⟩⟩ := h
  · have : l = [] := List.length_eq_zero_iff.1 h2
    subst this
    exact ⟨none, 0, rfl, Nat.le_refl _, .inl ⟨rfl, fun _ => rfl⟩⟩
  · refine ⟨_, cap, rfl, hnc, .inr ⟨g, 0, rfl, (Array.getElem?_eq_some_iff.1 hg).1, ?_⟩⟩
    intro i x hi j u hu
    have hx : x ∈ l := List.mem_of_getElem? hi
    have hj := (List.getElem?_eq_some_iff.1 hu).1
    rw [lkc_length (hk x hx)] at hj
    have := h'.cells (g := g) rfl (i * 96 + j) u (by rw [kcs_get hk i j x hi hj]; exact hu)
    rw [addr_add0] at this
    rwa [show 0 + i * 96 + j = 0 + (i * 96 + j) by omega]
theorem lit_nok (w : World) : (Instr.buildSlice 47 0 #[]).run Tryd.prog w = .ok (.slice (some ⟨w.heap.size, 0, none⟩) 0 0) (w.alloc (.cells #[] 49)) := by kernel_rfl
/-- Nodes behind none. -/
theorem app_links (w : World) (l : List Lk) (hk : ∀ x ∈ l, x.Ok) (hlen : l.length ≤ 2000000000000) (u : Value) (hu : KS w u l) :
    ∃ v' w', (Builtin.append_ #[47, 47] 47 #[.slice (some ⟨w.heap.size, 0, none⟩) 0 0, u]).run Tryd.prog (w.alloc (.cells #[] 49)) = .ok v' w' ∧ KS w' v' l ∧ Below w.heap.size w w' := by
  obtain ⟨i, z, hi, hz, hs, hb, hzs⟩ := info_lk
  obtain ⟨W, hW⟩ : ∃ W, w.alloc (.cells #[] 49) = W := ⟨_, rfl⟩
  have hB : Below w.heap.size w W := by rw [← hW]; exact (Below.refl _ w).alloc (Nat.le_refl _) _
  have hh : W.heap[w.heap.size]? = some (.cells #[] 49 (0, 0)) := by rw [← hW]; show (w.heap.push _)[w.heap.size]? = _; simp
  have hS : w.heap.size < W.heap.size := (Array.getElem?_eq_some_iff.1 hh).1
  have hu2 : KS W u l := hu.below hB
  rw [hW]
  have ho : W.ownsRow w.heap.size 49 96 (.slice (some ⟨w.heap.size, 0, none⟩) 0 0) 0 [] := ⟨rfl, .inr ⟨w.heap.size, 0, _, rfl, Nat.le_refl _, hh, Nat.le_refl _, by unfold maxLen; omega, rfl, rfl⟩⟩
  have hbytes : ((0 + l.length) + (0 + l.length) / 4 + 192) * 96 ≤ 281474976710656 := Nat.le_trans (Nat.mul_le_mul_right 96 (show (0 + l.length) + (0 + l.length) / 4 + 192 ≤ 2500000000192 by omega)) (by decide)
  have fin : ∀ w', W.grownBy w' ((.slice (some ⟨w.heap.size, 0, none⟩) 0 0 : Value).ownBlock) → Below w.heap.size w w' := fun w' g => hB.grown g (Nat.le_of_lt hS) (fun b e => by cases e; exact Nat.le_refl _)
  obtain ⟨ad, cap, rfl, hc, ⟨rfl, hn⟩ | ⟨b, o, rfl, hlt, hm⟩⟩ := hu2
  · cases ad with
    | none =>
      obtain rfl := hn rfl
      exact ⟨_, _, run_append_owned_none (P := Tryd.prog) W w.heap.size _ _ _ i 96 Tryd.underlying47 hi _ 0 [] ho, ks_none _ _ _ (fun h => by cases h), hB⟩
    | some A =>
      obtain ⟨v', w', hr, h2, h3, -⟩ := run_append_own_wide (P := Tryd.prog) W w.heap.size 47 47 49 i z 96 96 Tryd.underlying47 hi hz hs hb hzs (by decide) _ 0 [] ho A 0 cap [] rfl (fun j u hu => by simp at hu) (fun _ h => by cases h) (by unfold maxLen; omega) (by decide) (Nat.le_of_lt hS)
      exact ⟨v', w', hr, ks_row (l := []) (fun x hx => by cases hx) h2, fin w' h3⟩
  · obtain ⟨v', w', hr, h2, h3, -⟩ := run_append_own_wide (P := Tryd.prog) W w.heap.size 47 47 49 i z 96 96 Tryd.underlying47 hi hz hs hb hzs (by decide) _ 0 [] ho ⟨b, o, none⟩ l.length cap (kcs l) (kcs_length hk) (fun j u hu => by rw [addr_add0]; exact kcs_at hk hm j u hu) (kcs_one l) (by unfold maxLen; omega) hbytes (Nat.le_of_lt hS)
    rw [Nat.zero_add, List.nil_append] at h2
    exact ⟨v', w', hr, ks_row hk h2, fin w' h3⟩
end Go.Proofs.YtpojalbpekbfdaaDoor
/- Package grow: leafNodes. -/
namespace Go.Proofs.YtpojalbpekbfdaaDoor
open Go Go.RowKit
set_option linter.unusedSimpArgs false
set_option linter.unusedVariables false
set_option maxRecDepth 100000

set_option maxHeartbeats 4000000 in
theorem leafN_any (ls : List Lf) (hk : ∀ x ∈ ls, x.Ok) (hlen : ls.length ≤ 2500000000000) (v : Value) (w : World) (hv : LS w v ls) (hT : Tb w) :
    Calls Tryd.prog 27 #[v] w fun e w' => ∃ v', e = .returned v' ∧ NO w.heap.size w' v' (ls.map ln) ∧ Below w.heap.size w w' := by
  obtain ⟨ad, cap, rfl, hc, hx⟩ := hv
  have HXX : Hid (ls = [] ∧ (ad = none → cap = 0) ∨ ∃ b o, ad = some ⟨b, o, none⟩ ∧ b < w.heap.size ∧ ∀ (i : Nat) (x : Lf), ls[i]? = some x → w.rangeAt b (o + i * 64) (lfc x)) := hx
  have HK : Hid (∀ x ∈ ls, x.Ok) := hk
  have HT : Hid (Tb w) := hT
  obtain ⟨len, hln⟩ : ∃ len, ls.length = len := ⟨_, rfl⟩
  have HLN : Hid (ls.length = len) := hln
  have HLE : Hid (len ≤ 2500000000000) := by rw [← hln]; exact hlen
  rw [hln]
  have hz := zero_lf
  obtain ⟨Z, hZ⟩ : ∃ Z, (lfc lfz).toArray = Z := ⟨_, rfl⟩
  have HZS : Hid (Z.size = 64) := by show Z.size = 64; rw [← hZ, List.size_toArray]; exact lfc_length lfz_ok
  rw [hZ] at hz
  obtain ⟨w0, hmk, mk1, mk2⟩ := make_own w len (by have := HLE.out; omega)
  have MK1 : Hid (NO w.heap.size w0 (.slice (some ⟨w.heap.size, 0, none⟩) 0 len) []) := mk1
  have MK2 : Hid (Below w.heap.size w w0) := mk2
  clear hx hk hT hc hln hlen mk1 mk2 hZ
  go_enter Tryd.func27, Tryd.ntmps27
  go_wp2_with fail
  go_loopw [3, 11] (fun nv i wr => ∃ k : Nat, k ≤ len ∧ i = .int .i64 (k : Int) ∧ NO w.heap.size wr nv ((ls.take k).map ln) ∧ Below w.heap.size w wr) (fun _ i _ => len - (intOf i).toNat)
  case atStart => exact ⟨0, Nat.zero_le _, rfl, MK1.out, MK2.out⟩
  case round =>
    obtain ⟨k, hkl, rfl, hno, h4⟩ := hrel
    have H4 : Hid (Below w.heap.size w wr) := h4
    have HNO : Hid (NO w.heap.size wr u3 ((ls.take k).map ln)) := hno
    clear h4 hno hmk
    by_cases hlt : k < len
    · rcases HXX.out with ⟨h0, _⟩ | ⟨b, o, rfl, hlb, hm⟩
      · have := HLN.out; rw [h0] at this; simp at this; omega
      · obtain ⟨x, hx⟩ : ∃ x, ls[k]? = some x := ⟨ls[k]'(by have := HLN.out; omega), List.getElem?_eq_getElem _⟩
        have HX : Hid x.Ok := HK.out x (List.mem_of_getElem? hx)
        obtain ⟨y, hy⟩ : ∃ y, ln x = y := ⟨_, rfl⟩
        have HTK : Hid ((ls.take (k + 1)).map ln = (ls.take k).map ln ++ [y]) := by rw [← hy]; exact take_ln hx
        have HYO : Hid y.Ok := by rw [← hy]; exact ln_ok HX.out
        have HRX : Hid (wr.rangeAt b (o + k * 64) (lfc x)) := range_below (hm k x hx) H4.out hlb
        have HLF : Hid (∀ W : World, Tb W → Calls Tryd.prog 47 #[.agg (lfc x).toArray] W fun e w' => e = .returned (.agg (nc y).toArray) ∧ Below W.heap.size W w') := fun W q => by rw [← hy]; exact leafNode_any x.p x.q HX.out.p HX.out.q W q
        have HTL : Hid (((ls.take k).map ln).length = k) := by show _ = _; rw [List.length_map, List.length_take]; have := HLN.out; omega
        obtain ⟨X, hX⟩ : ∃ X, (lfc x).toArray = X := ⟨_, rfl⟩
        have HXA : Hid ((lfc x).toArray = X) := hX
        obtain ⟨L, hL⟩ : ∃ L, (ls.take k).map ln = L := ⟨_, rfl⟩
        rw [hL] at HTK HNO HTL
        have hl2 := HLE.out
        clear hm hlb hx hy hL
        go_upto_region 5 with (first
          | (refine load_g rfl 46 (.tmp 13) rfl b (o + k * 64) rfl (lfc x) _ HRX.out Tryd.underlying46 rfl (size_lfc HX.out) ?_; rw [hX])
          | (refine wpList_store_mid rfl 46 (.tmp 5) (.tmp 14) rfl wr.heap.size 0 (lfc x).toArray rfl (by rw [HXA.out]; rfl) (there_new wr (by rw [List.size_toArray, lfc_length HX.out, HZS.out])) (by rw [List.size_toArray]; exact size_lfc HX.out) (lfc_one x) ?_; simp only [List.toList_toArray]))
        obtain ⟨U, hU⟩ : ∃ U, (wr.alloc (.cells Z 46)).setCells wr.heap.size 0 (lfc x) = U := ⟨_, rfl⟩
        rw [hU]
        obtain ⟨r1, r2, r3⟩ := laid_row (by rw [lfc_length HX.out, HZS.out]) (by rw [lfc_length HX.out]; omega) hU
        have RU' : Hid (U.rangeAt wr.heap.size 0 (lfc x)) := r1
        have CU : Hid (Below w.heap.size w U) := H4.out.trans (r2.mono H4.out.size)
        have NU : Hid (NO w.heap.size U u3 L) := HNO.out.below r2
        have TU : Hid (Tb U) := HT.out.below CU.out
        clear r1 r2 r3 hU hX
        go_wp2_with (first
          | (refine ld 46 (.tmp 5) rfl rfl wr.heap.size 0 rfl (lfc x) _ RU'.out Tryd.underlying46 rfl (size_lfc HX.out) ?_)
          | (go_at_call 47; refine (HLF.out U TU.out).mono ?_; rintro e w1 ⟨rfl, g1⟩; have C1 : Hid (Below w.heap.size w w1) := CU.out.trans (g1.mono CU.out.size); have N1 : Hid (NO w.heap.size w1 u3 L) := NU.out.below g1; clear g1)
          | (refine wpList_onen rfl (.tmp 17) rfl y HYO.out rfl ?_)
          | (at_builtin; refine wp_appn rfl (.tmp 15) (.tmp 18) rfl rfl w.heap.size u3 (.slice (some ⟨w1.heap.size, 0, none⟩) 1 1) L [y] rfl rfl (N1.out.alloc _) (fun z hz => by simp at hz; subst hz; exact HYO.out) (ns_one w1 y _) (by have h1 := HTL.out; have h2 := HLE.out; simp only [List.length_cons, List.length_nil]; omega) ?_; intro v2 w2 g1 g2; have N2 : Hid (NO w.heap.size w2 v2 ((ls.take (k + 1)).map ln)) := by rw [HTK.out]; exact g1
             have C2 : Hid (Below w.heap.size w w2) := (C1.out.alloc C1.out.size _).trans g2
             clear g1 g2))
        exact ⟨⟨k + 1, by omega, by go_num, N2.out, C2.out⟩, by simp [intOf]; omega⟩
    · obtain rfl : k = len := by omega
      have HTA : Hid ((ls.take k).map ln = ls.map ln) := by show _ = _; rw [← HLN.out, List.take_length]
      have N9 : Hid (NO w.heap.size wr u3 (ls.map ln)) := by have := HNO.out; rw [HTA.out] at this; exact this
      go_wp2_with fail
      go_ret
      exact ⟨_, rfl, N9.out, H4.out⟩
end Go.Proofs.YtpojalbpekbfdaaDoor
/- slices.Grow of nil and slices.Concat, of nodes. -/
namespace Go.Proofs.YtpojalbpekbfdaaDoor
open Go Go.RowKit
set_option linter.unusedSimpArgs false
set_option linter.unusedVariables false
set_option maxRecDepth 100000

/-- Noughts behind nil, and none of them taken. -/
theorem zeros_own (w : World) (n : Nat) (h0 : 0 < n) (hn : n ≤ 3000000000000) :
    ∃ cap w', (Builtin.append_ #[24, 3] 24 #[.slice none 0 0, .int .i64 (n : Int)]).run Tryd.prog w = .ok (.slice (some ⟨w.heap.size, 0, none⟩) n cap) w' ∧ NO w.heap.size w' (.slice (some ⟨w.heap.size, 0, none⟩) 0 cap) [] ∧ Below w.heap.size w w' ∧ n ≤ cap := by
  obtain ⟨i, z, hi, hz, hs, hb, hzs⟩ := info_nd
  have hr := Lib.run_append_nil_zeros (P := Tryd.prog) w 24 3 24 44 i z .i64 .i64 Tryd.underlying24 Tryd.underlying3 hi hz n h0 (by rw [hs]; omega) (by omega) (by rw [hb]; omega)
  have hge : n ≤ grownCap w n 0 44 := grownCap_ge _ _ _ _
  have hcm : grownCap w n 0 44 ≤ maxLen := grownCap_le_maxLen w n 0 _ (by unfold maxLen; omega)
  have hh : (w.drew.alloc (.cells (Builtin.zeroCells z.cells n ++ Builtin.zeroCells z.cells (grownCap w n 0 44 - n)) 44)).heap[w.heap.size]? = some (.cells (Builtin.zeroCells z.cells n ++ Builtin.zeroCells z.cells (grownCap w n 0 44 - n)) 44 (0, 0)) := by
    show (w.heap.push _)[w.heap.size]? = _; simp
  have hbl : Below w.heap.size w (w.drew.alloc (.cells (Builtin.zeroCells z.cells n ++ Builtin.zeroCells z.cells (grownCap w n 0 44 - n)) 44)) := ((Below.refl _ w).drew).alloc (Nat.le_refl _) _
  have hzc : ∀ m, (Builtin.zeroCells z.cells m).size = m * 65 := fun m => by simp [Builtin.zeroCells, hzs]
  refine ⟨_, _, hr, ⟨⟨rfl, .inr ⟨w.heap.size, _, _, rfl, Nat.le_refl _, hh, Nat.zero_le _, hcm, ?_, rfl⟩⟩, (fun x hx => by cases hx), hbl.size⟩, hbl, hge⟩
  rw [Array.size_append, hzc, hzc, ← Nat.add_mul]
  congr 1; omega
set_option maxHeartbeats 2000000 in
theorem Grow_any (n : Nat) (hn : n ≤ 3000000000000) (w : World) :
    Calls Tryd.prog 62 #[.slice none 0 0, .int .i64 (n : Int)] w fun e w' => ∃ v', e = .returned v' ∧ NO w.heap.size w' v' [] ∧ Below w.heap.size w w' := by
  by_cases h0 : n = 0
  · subst h0
    go_enter Tryd.func62, Tryd.ntmps62
    go_wp2_with fail
    go_ret
    exact ⟨_, rfl, NO.nil _, Below.refl _ _⟩
  · obtain ⟨cap, w1, hr, h1, h2, h3⟩ := zeros_own w n (by omega) hn
    have O1 : Hid (NO w.heap.size w1 (.slice (some ⟨w.heap.size, 0, none⟩) 0 cap) []) := h1
    have B1 : Hid (Below w.heap.size w w1) := h2
    have HR : Hid ((Builtin.append_ #[24, 3] 24 #[.slice none 0 0, .int .i64 (n : Int)]).run Tryd.prog w = .ok (.slice (some ⟨w.heap.size, 0, none⟩) n cap) w1) := hr
    have hneg : ¬ ((n : Int) < 0) := by omega
    have hpos : (0 : Int) < (n : Int) := by omega
    clear h1 h2 hr
    go_enter Tryd.func62, Tryd.ntmps62
    go_wp2_with (at_builtin; refine Lib.wpList_append_run _ rfl (.tmp 20) (.tmp 21) 24 3 rfl (.slice none 0 0) (.int .i64 (n : Int)) rfl rfl _ w1 HR.out ?_)
    go_ret
    exact ⟨_, rfl, O1.out, B1.out⟩
/-- Slices of nodes in a row. -/
def LLn (w : World) (v : Value) (us : List Value) (lss : List (List Nd)) : Prop :=
  ∃ b o cap, v = .slice (some ⟨b, o, none⟩) us.length cap ∧ us.length ≤ cap ∧ us.length = lss.length ∧ b < w.heap.size ∧ ∀ (i : Nat) (u : Value) (l : List Nd), us[i]? = some u → lss[i]? = some l → w.cell? ⟨b, o + i, none⟩ = some u ∧ NS w u l
theorem LLn.below {w w' : World} {v : Value} {us : List Value} {lss : List (List Nd)} (h : LLn w v us lss) (hb : Below w.heap.size w w') : LLn w' v us lss := by
  obtain ⟨b, o, cap, rfl, h1, h2, h3, h4⟩ := h
  exact ⟨b, o, cap, rfl, h1, h2, Nat.lt_of_lt_of_le h3 hb.size, fun i u l hu hl => ⟨(hb.cell (p := ⟨b, o + i, none⟩) h3).trans (h4 i u l hu hl).1, (h4 i u l hu hl).2.below hb⟩⟩
theorem flat_take {lss : List (List Nd)} {k : Nat} {l : List Nd} (h : lss[k]? = some l) : (lss.take (k + 1)).flatten = (lss.take k).flatten ++ l := by
  rw [List.take_add_one, h]; simp
theorem flat_le {lss : List (List Nd)} (k : Nat) : (lss.take k).flatten.length ≤ lss.flatten.length := by
  have e : lss.flatten = (lss.take k).flatten ++ (lss.drop k).flatten := by rw [← List.flatten_append, List.take_append_drop]
  rw [e, List.length_append]; omega
set_option maxHeartbeats 4000000 in
theorem Concat_any (us : List Value) (lss : List (List Nd)) (hk : ∀ l ∈ lss, ∀ x ∈ l, x.Ok) (hlen : lss.flatten.length ≤ 3000000000000) (hn : us.length ≤ 3000000000000) (v : Value) (w : World) (hv : LLn w v us lss) :
    Calls Tryd.prog 43 #[v] w fun e w' => ∃ v', e = .returned v' ∧ NO w.heap.size w' v' lss.flatten ∧ Below w.heap.size w w' := by
  have HV : Hid (LLn w v us lss) := hv
  obtain ⟨b, o, cap, rfl, hcap, hul, hlb, hm⟩ := hv
  have HM : Hid (∀ (i : Nat) (u : Value) (l : List Nd), us[i]? = some u → lss[i]? = some l → w.cell? ⟨b, o + i, none⟩ = some u ∧ NS w u l) := hm
  have HLB : Hid (b < w.heap.size) := hlb
  have HK : Hid (∀ l ∈ lss, ∀ x ∈ l, x.Ok) := hk
  have HFL : Hid (lss.flatten.length ≤ 3000000000000) := hlen
  have HUL : Hid (us.length = lss.length) := hul
  obtain ⟨n, hn'⟩ : ∃ n, us.length = n := ⟨_, rfl⟩
  have HN : Hid (us.length = n) := hn'
  rw [hn'] at hn hcap ⊢
  have HGR : Hid (∀ (m : Nat) (W : World), m ≤ 3000000000000 → Calls Tryd.prog 62 #[.slice none 0 0, .int .i64 (m : Int)] W fun e w' => ∃ v', e = .returned v' ∧ NO W.heap.size w' v' [] ∧ Below W.heap.size W w') := fun m W h => Grow_any m h W
  clear hm hlb hk hlen hul hn' HV
  go_enter Tryd.func43, Tryd.ntmps43
  go_wp2_with fail
  go_loopw [3, 11] (fun sv i wr => ∃ k : Nat, k ≤ n ∧ i = .int .i64 (k : Int) ∧ sv = .int .i64 (((lss.take k).flatten.length : Nat) : Int) ∧ wr = w) (fun _ i _ => n - (intOf i).toNat)
  case atStart => exact ⟨0, Nat.zero_le _, rfl, rfl, rfl⟩
  case round =>
    obtain ⟨k, hkn, rfl, rfl, rfl⟩ := hrel
    by_cases hlt : k < n
    · have HLT : Hid (k < n) := hlt
      obtain ⟨u, hu⟩ : ∃ u, us[k]? = some u := ⟨us[k]'(by rw [HN.out]; exact hlt), List.getElem?_eq_getElem _⟩
      obtain ⟨l, hl⟩ : ∃ l, lss[k]? = some l := ⟨lss[k]'(by rw [← HUL.out, HN.out]; exact hlt), List.getElem?_eq_getElem _⟩
      obtain ⟨c1, c2⟩ := HM.out k u l hu hl
      obtain ⟨ad, cp, hu9, -, -⟩ := id c2
      obtain ⟨nl, hnl⟩ : ∃ m, l.length = m := ⟨_, rfl⟩
      rw [hnl] at hu9
      rw [hu9] at c1
      obtain ⟨t, ht⟩ : ∃ t, (lss.take k).flatten.length = t := ⟨_, rfl⟩
      have HT1 : Hid ((lss.take (k + 1)).flatten.length = t + nl) := by show _ = _; rw [flat_take hl, List.length_append, ht, hnl]
      have hb9 : t + nl ≤ 3000000000000 := by have h1 := flat_le (lss := lss) (k + 1); have h2 := HFL.out; have h3 := HT1.out; omega
      have hng : ¬ ((t : Int) + (nl : Int) < 0) := by omega
      rw [ht]
      clear hu hl c2 hu9 hnl ht
      go_wp2_with fail
      exact ⟨⟨k + 1, HLT.out, by go_num, by rw [HT1.out]; go_num, trivial⟩, by have := HLT.out; simp [intOf]; omega⟩
    · obtain rfl : k = n := by omega
      have eT : lss.take k = lss := by rw [← HN.out, HUL.out]; exact List.take_length
      obtain ⟨t, ht⟩ : ∃ t, lss.flatten.length = t := ⟨_, rfl⟩
      have ht9 : t ≤ 3000000000000 := by rw [← ht]; exact HFL.out
      have HG : Hid (Calls Tryd.prog 62 #[.slice none 0 0, .int .i64 (t : Int)] wr fun e w' => ∃ v', e = .returned v' ∧ NO wr.heap.size w' v' [] ∧ Below wr.heap.size wr w') := HGR.out t wr ht9
      rw [eT, ht]
      clear eT ht
      go_wp2_with (go_at_call 62; refine HG.out.mono ?_; rintro e w1 ⟨v1, rfl, g1, g2⟩; have O1 : Hid (NO wr.heap.size w1 v1 []) := g1; have B1 : Hid (Below wr.heap.size wr w1) := g2; clear g1 g2)
      obtain ⟨W0, hW0⟩ : ∃ W, wr = W := ⟨_, rfl⟩
      rw [hW0] at HM HLB O1 B1
      clear HGR HG
      go_loopw [6, 27] (fun av i wx => ∃ j : Nat, j ≤ k ∧ i = .int .i64 (j : Int) ∧ NO W0.heap.size wx av (lss.take j).flatten ∧ Below W0.heap.size W0 wx) (fun _ i _ => k - (intOf i).toNat)
      case atStart => exact ⟨0, Nat.zero_le _, rfl, O1.out, B1.out⟩
      case round =>
        obtain ⟨j, hjn, rfl, q1, q2⟩ := hrel
        have O2 : Hid (NO W0.heap.size wr u6 (lss.take j).flatten) := q1
        have B2 : Hid (Below W0.heap.size W0 wr) := q2
        clear q1 q2
        by_cases hlt : j < k
        · have HLT : Hid (j < k) := hlt
          obtain ⟨u, hu⟩ : ∃ u, us[j]? = some u := ⟨us[j]'(by rw [HN.out]; exact hlt), List.getElem?_eq_getElem _⟩
          obtain ⟨l, hl⟩ : ∃ l, lss[j]? = some l := ⟨lss[j]'(by rw [← HUL.out, HN.out]; exact hlt), List.getElem?_eq_getElem _⟩
          obtain ⟨c1, c2⟩ := HM.out j u l hu hl
          have c3 : wr.cell? ⟨b, o + j, none⟩ = some u := (B2.out.cell (p := ⟨b, o + j, none⟩) HLB.out).trans c1
          obtain ⟨ad, cp, hu9, -, -⟩ := id c2
          obtain ⟨nl, hnl⟩ : ∃ m, l.length = m := ⟨_, rfl⟩
          rw [hnl] at hu9
          have NL : Hid (NS wr (.slice ad nl cp) l) := by rw [← hu9]; exact c2.below B2.out
          rw [hu9] at c3
          have HLO : Hid (∀ x ∈ l, x.Ok) := HK.out l (List.mem_of_getElem? hl)
          have HF1 : Hid ((lss.take (j + 1)).flatten = (lss.take j).flatten ++ l) := flat_take hl
          have HSZ : Hid ((lss.take j).flatten.length + l.length ≤ 3000000000000) := by show _ ≤ _; have h1 := flat_le (lss := lss) (j + 1); rw [flat_take hl, List.length_append] at h1; have h2 := HFL.out; omega
          clear hu hl c1 c2 hu9 hnl hW0
          go_wp2_with (at_builtin; refine wp_appn rfl (.tmp 31) (.tmp 32) rfl rfl W0.heap.size u6 (.slice ad nl cp) (lss.take j).flatten l rfl rfl O2.out HLO.out NL.out HSZ.out ?_; intro v3 w3 g1 g2; have O3 : Hid (NO W0.heap.size w3 v3 (lss.take (j + 1)).flatten) := (HF1.out.symm ▸ g1); have B3 : Hid (Below W0.heap.size W0 w3) := B2.out.trans g2; clear g1 g2)
          exact ⟨⟨j + 1, HLT.out, by go_num, O3.out, B3.out⟩, by have := HLT.out; simp [intOf]; omega⟩
        · obtain rfl : j = k := by omega
          have eT : lss.take j = lss := by rw [← HN.out, HUL.out]; exact List.take_length
          have O3 : Hid (NO W0.heap.size wr u6 lss.flatten) := by have := O2.out; rw [eT] at this; exact this
          clear eT
          go_wp2_with fail
          go_ret
          subst hW0
          exact ⟨_, rfl, O3.out, B2.out⟩
end Go.Proofs.YtpojalbpekbfdaaDoor
