/- Checkpoint of a log on a disk; behind; scripts. -/
import Derived.Test.YthfpakjfdncphaaDoorWalFB
namespace Go.Proofs.YthfpakjfdncphaaDoor
open Go Go.RowKit
set_option linter.unusedSimpArgs false
set_option linter.unusedVariables false
set_option maxRecDepth 100000

theorem checkpoint_lg {S : Nat → Prop} {B : Nat} {w0 w : World} {g : Nat} {s : Dk} {lg : Nat} {l : Lo} {q : Nat → Option (Nat × List (List Int))} (h : Lg S B w0 w g s lg l q) (ht : l.t + 1 < 18446744073709551616) (xss : List (List Int)) (v : Value) (us : List Value) (hv : Wt S w v us xss) (hR : Rok xss) (hn : xss.length ≤ 999999998) :
    Calls Tryd.prog 14 #[.pointer (some ⟨lg, 0, none⟩), v] w fun e w' => ∃ z s' l' q' S', e = .returned (.int .i64 z) ∧ Lg S' B w0 w' g s' lg l' q' ∧ Nx S w S' w' ∧ s'.n = s.n ∧ s'.fu = s.fu ∧ l'.t ≤ l.t + 1 ∧ ((z = 0 ∧ l'.rs = xss) ∨ (z = 5 ∧ l'.rs = l.rs ∧ (s.fu = true ∨ ¬ roomy xss s.n))) := by
  obtain ⟨hS, hn2, hg⟩ := h.sby
  have hen : l.t ≠ 0 → tk s l.en (hfT s.n l.t) = none := fun h0 => by obtain ⟨xs, ns, c1, c2, c3, c4, c5⟩ := h.li.p h0; exact c4
  have hle : l.en ≤ 65536 := by
    by_cases h0 : l.t = 0
    · rw [(h.li.z h0).2.2.2]; omega
    · obtain ⟨f1, f2, f3⟩ := h.li.front hS h0
      rcases hf_cases s.n l.t with ⟨_, _, c⟩ | ⟨_, _, c⟩ <;> omega
  refine (checkpoint_any h.wl h.li.lo h.dn h.li.e0 h.li.e1 ht hle (by have := h.li.rsl hS hn2; omega) hen xss v (fun w' c => (hv.nx ⟨c, fun b x => .inl x⟩).ll) hR (by omega) (by rw [h.wt]; simp)).mono ?_
  rintro e w' ⟨rfl, ha⟩
  by_cases hf : hfF s.n (l.t + 1) + fl (JS xss) < hfT s.n (l.t + 1)
  · by_cases hu : s.fu = true
    · have hl := lay_full h.dn h.fz hu (a := hfF s.n (l.t + 1)) (by rcases hf_cases s.n (l.t + 1) with ⟨_, c, d⟩ | ⟨_, c, d⟩ <;> rw [d] at hf <;> omega) (JN ((l.t + 1 : Nat) : Int) xss)
      have hE : bgR s l xss = (5, s, l) := by
        unfold bgR
        rw [if_pos hf, hl, if_neg (show ¬ (5 : Int) = 0 by decide)]
        show (5, s, ({ l with lo := decide ((5 : Int) = 9) } : Lo)) = _
        rw [show decide ((5 : Int) = 9) = l.lo by rw [h.li.lo]; rfl]
      rw [hE] at ha ⊢
      obtain ⟨S', a1, a2⟩ := h.aft ha h.li h.dn h.fz h.wt
      exact ⟨5, s, l, q, S', rfl, a1, a2, rfl, rfl, by omega, .inr ⟨rfl, rfl, .inl hu⟩⟩
    · have hu' : s.fu = false := by simpa using hu
      obtain ⟨b1, b2, b3, b4, b5, b6⟩ := h.li.begin hS ⟨h.dn, h.fz, hu'⟩ h.wt hf hR ht (by have := js_rok hR; omega)
      rw [b1]
      obtain ⟨S', a1, a2⟩ := h.aft ha b6 (by rw [b2]; exact h.dn) (by rw [b2]; exact h.fz) (by rw [b2])
      exact ⟨0, _, _, _, S', rfl, a1, a2, by rw [b2], by rw [b2], by omega, .inl ⟨rfl, b3⟩⟩
  · have hE : bgR s l xss = (5, s, l) := by unfold bgR; rw [if_neg hf]
    rw [hE] at ha ⊢
    obtain ⟨S', a1, a2⟩ := h.aft ha h.li h.dn h.fz h.wt
    exact ⟨5, s, l, q, S', rfl, a1, a2, rfl, rfl, by omega, .inr ⟨rfl, rfl, .inr (fun hr => hf (room_begin h.li.n64 hr))⟩⟩
theorem mi_drop (rs : List (List Int)) (j i : Nat) : mi (rs.drop j) i = mi rs (j + i) := by
  unfold mi; rw [List.getD_eq_getElem?_getD, List.getD_eq_getElem?_getD, List.getElem?_drop]
/-- The records from a place on. -/
theorem Wt.cut {S : Nat → Prop} {w : World} {ad : Option Addr} {cap : Nat} {us : List Value} {rs : List (List Int)} (h : Wt S w (.slice ad rs.length cap) us rs) {j : Nat} (hj : j ≤ rs.length) (hc : rs.length ≤ cap) {ad' : Option Addr}
    (ha : ad' = if cap = j then ad else ad.map (fun x => x.add j)) : Wt S w (.slice ad' (rs.length - j) (cap - j)) (us.drop j) (rs.drop j) := by
  have hl := h.len
  obtain ⟨ad0, cap0, he, hc0, hm⟩ := h.src
  simp only [Value.slice.injEq] at he
  obtain ⟨rfl, -, rfl⟩ := he
  refine ⟨by simp [hl], ⟨ad', cap - j, by simp [hl], by simp; omega, ?_⟩, fun b e => ?_, fun i u hu => ?_⟩
  · rcases hm with ⟨rfl, h0⟩ | ⟨b, o, rfl, hb, hcell⟩
    · refine .inl ⟨by simp, fun e => ?_⟩
      have hj0 : j = 0 := by have : rs.length = 0 := by rw [← hl]; rfl
                             omega
      subst hj0
      rw [Nat.sub_zero]
      cases ad with
      | none => exact h0 rfl
      | some x => rw [ha] at e; split at e <;> cases e
    · by_cases hcj : cap = j
      · refine .inl ⟨?_, fun e => by rw [ha, if_pos hcj] at e; cases e⟩
        rw [List.drop_eq_nil_iff]; omega
      · refine .inr ⟨b, o + j, by rw [ha, if_neg hcj]; simp [addr_add0], hb, fun i u hu => ?_⟩
        rw [List.getElem?_drop] at hu
        rw [Nat.add_assoc]
        exact hcell (j + i) u hu
  · refine h.nb b ?_
    rw [ha] at e
    cases ad with
    | none => split at e <;> cases e
    | some x =>
      split at e
      · exact e
      · have e' : some (x.add j).block = some b := e
        have : (x.add j).block = x.block := by unfold Addr.add; split <;> rfl
        rw [this] at e'; exact e'
  · rw [List.getElem?_drop] at hu
    rw [mi_drop]
    exact h.mem (j + i) u hu
set_option maxHeartbeats 1000000 in
theorem behind_any {S : Nat → Prop} {w : World} {v : Value} {us : List Value} {rs : List (List Int)} (h : Wt S w v us rs) (n : Int) (hl : rs.length ≤ 999999998) :
    Calls Tryd.prog 13 #[v, .int .i64 n] w fun e w' => w' = w ∧ ∃ v' j, e = .returned v' ∧ j ≤ rs.length ∧ Wt S w v' (us.drop j) (rs.drop j) := by
  obtain ⟨ad, cap, hve, hc, -⟩ := h.ll
  subst hve
  have HW : Hid (Wt S w (.slice ad rs.length cap) us rs) := h
  obtain ⟨j, hj1, hj2⟩ : ∃ j : Nat, Int.tmod (IntKind.u64.wrap n) ((rs.length : Int) + 1) = (j : Int) ∧ j ≤ rs.length := by
    have h0 : 0 ≤ IntKind.u64.wrap n := by rw [IntKind.wrap_u64]; omega
    have h1 := Int.tmod_nonneg ((rs.length : Int) + 1) h0
    have h2 := Int.tmod_lt_of_pos (IntKind.u64.wrap n) (show (0 : Int) < (rs.length : Int) + 1 by omega)
    exact ⟨(Int.tmod (IntKind.u64.wrap n) ((rs.length : Int) + 1)).toNat, by omega, by omega⟩
  clear h
  go_enter Tryd.func13, Tryd.ntmps13
  go_wp2_with fail
  · go_ret
    have := HW.out.cut hj2 hc (ad' := ad) (by rw [if_pos h])
    rw [show cap - j = 0 by omega] at this
    exact ⟨rfl, _, rfl, j, hj2, this⟩
  · go_ret
    exact ⟨rfl, _, rfl, j, hj2, HW.out.cut hj2 hc (by rw [if_neg h])⟩
/-- What a script asks. -/
structure Itm where
  kind : Int
  n : Int
  dv : Value
  cv : Value
  ds : List Int
def Itm.cells (o : Itm) : List Value := [.int .i64 o.kind, .int .i64 o.n, o.dv, o.cv]
structure Itm.Ok (w : World) (o : Itm) : Prop where
  sq : Sq w o.dv o.ds
  by' : Byt o.ds
  len : o.ds.length ≤ 140737488351232
  cs : ∃ a l c, o.cv = .slice a l c
/-- A script. -/
def Scr (w : World) (v : Value) (L : Nat) (f : Nat → Itm) : Prop := ∃ ad cap, v = .slice ad L cap ∧ L ≤ cap ∧ (L = 0 ∨ ∃ b o, ad = some ⟨b, o, none⟩ ∧ b < w.heap.size ∧ ∀ i, i < L → w.rangeAt b (o + i * 4) (f i).cells ∧ (f i).Ok w)
theorem size_itm : (Tryd.prog.info? 34).map (·.size) = some 4 := by kernel_rfl
theorem itm_one {w : World} {o : Itm} (h : o.Ok w) : o.cells.toArray.all (·.oneCell') = true := by
  obtain ⟨a, c, e, -⟩ := h.sq.sl
  obtain ⟨a', l', c', e'⟩ := h.cs
  unfold Itm.cells
  rw [e, e', List.all_toArray]; rfl
/-- What stands in the slots while 'next' is made. -/
def pφ (B : Nat) (wv pd dv : Value) (p : List Int) (us : List Value) : Nat → Value → World → Prop
  | 0, v, W => ∃ b, v = .slice (some ⟨b, 0, none⟩) 0 0 ∧ B ≤ b ∧ W.heap[b]? = some (.cells #[] 32 (0, 0))
  | 1, v, _ => v = wv
  | 2, v, W => OV B W v us ∧ B ≤ W.heap.size
  | 3, v, W => ∃ b, v = .slice (some ⟨b, 0, none⟩) 0 0 ∧ B ≤ b ∧ W.heap[b]? = some (.cells #[] 5 (0, 0))
  | 4, v, _ => v = pd
  | 5, v, _ => v = dv
  | 6, v, W => Ow B W v p
  | 7, v, W => ∃ b u, v = .slice (some ⟨b, 0, none⟩) 1 1 ∧ W.heap[b]? = some (.cells #[u] 32 (0, 0)) ∧ Ow B W u p
  | 8, v, W => ∃ u, OV B W v (us ++ [u]) ∧ Ow B W u p
  | 9, v, W => ∃ u, OV B W v (us ++ [u]) ∧ Ow B W u p
  | _, _, _ => True
def pR (B : Nat) : Nat → World → World → Prop
  | 2, W, W' => Below B W W' ∧ ∀ b : Nat, b < W.heap.size → W.heap[b]? ≠ some (Obj.cells #[] 32 (0, 0)) → W'.heap[b]? = W.heap[b]?
  | 6, W, W' => Below B W W' ∧ ∀ b : Nat, b < W.heap.size → W.heap[b]? ≠ some (Obj.cells #[] 5 (0, 0)) → W'.heap[b]? = W.heap[b]?
  | 8, W, W' => Below B W W' ∧ ∀ (b : Nat) (cs : Array Value), W.heap[b]? = some (Obj.cells cs 5 (0, 0)) → W'.heap[b]? = W.heap[b]?
  | 9, W, W' => W' = W
  | _, W, W' => Below W.heap.size W W'
def pD : Nat → Nat
  | 0 => 2
  | 2 => 8
  | 3 => 6
  | 6 => 7
  | 7 => 8
  | _ => 10
theorem pR.tr {B : Nat} (j : Nat) {a b c : World} (hB : B ≤ a.heap.size) (h : Below B a b) (r : pR B j b c) : Below B a c := by
  have hz : B ≤ b.heap.size := Nat.le_trans hB h.size
  unfold pR at r
  split at r
  · exact h.trans r.1
  · exact h.trans r.1
  · exact h.trans r.1
  · rw [r]; exact h
  · exact h.trans (r.mono hz)
theorem Ow.typ {B : Nat} {W : World} {u : Value} {p : List Int} (h : Ow B W u p) {b : Nat} (e : u.ownBlock = some b) : ∃ cs, W.heap[b]? = some (Obj.cells cs 5 (0, 0)) := by
  rcases h.2 with ⟨rfl, _⟩ | ⟨g, cap, cur, rfl, _, hg, _⟩
  · cases e
  · cases e; exact ⟨_, hg⟩
theorem OV.keep {B0 : Nat} {w w' : World} {v : Value} {us : List Value} (h : OV B0 w v us) (k : ∀ (b : Nat) (cs : Array Value), w.heap[b]? = some (Obj.cells cs 32 (0, 0)) → w'.heap[b]? = w.heap[b]?) : OV B0 w' v us := by
  refine ⟨h.1, ?_⟩
  rcases h.2 with h1 | ⟨g, cap, cur, rfl, hg, hh, rest⟩
  · exact .inl h1
  · exact .inr ⟨g, cap, cur, rfl, hg, by rw [k g _ hh]; exact hh, rest⟩
theorem typ_ne {cs cs' : Array Value} (e : Obj.cells cs 5 (0, 0) = Obj.cells cs' 32 (0, 0)) : False := by cases e
theorem pφ.low {B : Nat} {wv pd dv : Value} {p : List Int} {us : List Value} (i : Nat) {v : Value} {W W' : World} (h : pφ B wv pd dv p us i v W) (hb : Below W.heap.size W W') : pφ B wv pd dv p us i v W' := by
  unfold pφ at h ⊢
  split
  · obtain ⟨b, e, hB, hg⟩ := h
    exact ⟨b, e, hB, by rw [hb.block b (Array.getElem?_eq_some_iff.1 hg).1]; exact hg⟩
  · exact h
  · exact ⟨h.1.below hb, Nat.le_trans h.2 hb.size⟩
  · obtain ⟨b, e, hB, hg⟩ := h
    exact ⟨b, e, hB, by rw [hb.block b (Array.getElem?_eq_some_iff.1 hg).1]; exact hg⟩
  · exact h
  · exact h
  · exact Ow.below h hb
  · obtain ⟨b, u, e, hg, ho⟩ := h
    exact ⟨b, u, e, by rw [hb.block b (Array.getElem?_eq_some_iff.1 hg).1]; exact hg, ho.below hb⟩
  · obtain ⟨u, h1, h2⟩ := h; exact ⟨u, h1.below hb, h2.below hb⟩
  · obtain ⟨u, h1, h2⟩ := h; exact ⟨u, h1.below hb, h2.below hb⟩
  · trivial
theorem pφ.stay {B : Nat} {wv pd dv : Value} {p : List Int} {us : List Value} (i j : Nat) {v : Value} {W W' : World} (hij : i ≠ j) (hD : pD i ≠ j) (h8 : i = 8 → j = 2 ∨ j = 6 → False) (h9 : i = 9 → j = 2 ∨ j = 6 ∨ j = 8 → False) (h76 : i = 7 → j = 6 → False) (h08 : i = 0 → j = 8 → False) (h68 : i = 6 → j = 8 → False) (h : pφ B wv pd dv p us i v W) (r : pR B j W W') : pφ B wv pd dv p us i v W' := by
  by_cases j2 : j = 2
  · subst j2
    have r' : Below B W W' ∧ ∀ b : Nat, b < W.heap.size → W.heap[b]? ≠ some (Obj.cells #[] 32 (0, 0)) → W'.heap[b]? = W.heap[b]? := r
    have ow : ∀ {u : Value}, Ow B W u p → Ow B W' u p := fun {u} ho => ho.keep (fun b e => by
      obtain ⟨cs, hc⟩ := ho.typ e
      exact r'.2 b (Array.getElem?_eq_some_iff.1 hc).1 (by rw [hc]; intro x; exact typ_ne (Option.some.inj x)))
    rcases i with _ | _ | _ | _ | _ | _ | _ | _ | _ | _ | i
    · exact absurd rfl hD
    · exact h
    · exact absurd rfl hij
    · obtain ⟨b, e, hB, hg⟩ := h
      exact ⟨b, e, hB, by rw [r'.2 b (Array.getElem?_eq_some_iff.1 hg).1 (by rw [hg]; intro x; exact typ_ne (Option.some.inj x))]; exact hg⟩
    · exact h
    · exact h
    · exact ow h
    · obtain ⟨b, u, e, hg, ho⟩ := h
      exact ⟨b, u, e, by rw [r'.2 b (Array.getElem?_eq_some_iff.1 hg).1 (by rw [hg]; intro x; cases x)]; exact hg, ow ho⟩
    · exact (h8 rfl (.inl rfl)).elim
    · exact (h9 rfl (.inl rfl)).elim
    · trivial
  by_cases j6 : j = 6
  · subst j6
    have r' : Below B W W' ∧ ∀ b : Nat, b < W.heap.size → W.heap[b]? ≠ some (Obj.cells #[] 5 (0, 0)) → W'.heap[b]? = W.heap[b]? := r
    have k : ∀ (b : Nat) (cs : Array Value), W.heap[b]? = some (Obj.cells cs 32 (0, 0)) → W'.heap[b]? = W.heap[b]? := fun b cs hc => r'.2 b (Array.getElem?_eq_some_iff.1 hc).1 (by rw [hc]; intro x; exact typ_ne (Option.some.inj x).symm)
    rcases i with _ | _ | _ | _ | _ | _ | _ | _ | _ | _ | i
    · obtain ⟨b, e, hB, hg⟩ := h
      exact ⟨b, e, hB, by rw [k b _ hg]; exact hg⟩
    · exact h
    · exact ⟨h.1.keep k, Nat.le_trans h.2 r'.1.size⟩
    · exact absurd rfl hD
    · exact h
    · exact h
    · exact absurd rfl hij
    · exact (h76 rfl rfl).elim
    · exact (h8 rfl (.inr rfl)).elim
    · exact (h9 rfl (.inr (.inl rfl))).elim
    · trivial
  by_cases j8 : j = 8
  · subst j8
    have r' : Below B W W' ∧ ∀ (b : Nat) (cs : Array Value), W.heap[b]? = some (Obj.cells cs 5 (0, 0)) → W'.heap[b]? = W.heap[b]? := r
    rcases i with _ | _ | _ | _ | _ | _ | _ | _ | _ | _ | i
    · exact (h08 rfl rfl).elim
    · exact h
    · exact absurd rfl hD
    · obtain ⟨b, e, hB, hg⟩ := h
      exact ⟨b, e, hB, by rw [r'.2 b _ hg]; exact hg⟩
    · exact h
    · exact h
    · exact (h68 rfl rfl).elim
    · exact absurd rfl hD
    · exact absurd rfl hij
    · exact (h9 rfl (.inr (.inr rfl))).elim
    · trivial
  by_cases j9 : j = 9
  · subst j9
    have r' : W' = W := r
    rw [r']; exact h
  have r' : Below W.heap.size W W' := by
    unfold pR at r
    split at r
    · exact absurd rfl j2
    · exact absurd rfl j6
    · exact absurd rfl j8
    · exact absurd rfl j9
    · exact r
  exact h.low i r'
/-- One more record, of the law's own. -/
theorem Wt.snocN {S : Nat → Prop} {B0 : Nat} {w : World} {v v' : Value} {us : List Value} {rs : List (List Int)} (h : Wt S w v us rs) (hB : ∀ b, S b → b < B0) {u : Value} {p : List Int} {w' : World} (hw : Chg S w w') (hu : Ow B0 w' u p) (ho : OV B0 w' v' (us ++ [u])) : Wt S w' v' (us ++ [u]) (rs ++ [p]) := by
  obtain ⟨o1, o2⟩ := ho.rs
  refine ⟨by simp [h.len], o1, fun b e => ⟨fun x => by have := hB b x; have := (o2 b e).1; omega, (o2 b e).2⟩, fun i y hy => ?_⟩
  rcases Nat.lt_or_ge i us.length with hl | hl
  · rw [List.getElem?_append_left hl] at hy
    rw [mi_app_lo (by rw [← h.len]; exact hl)]
    obtain ⟨m1, m2⟩ := h.mem i y hy
    exact ⟨m1.chg hw m2, m2⟩
  · rw [List.getElem?_append_right hl] at hy
    obtain ⟨h0, h1⟩ := List.getElem?_eq_some_iff.1 hy
    have ei : i = us.length := by simp at h0; omega
    subst ei
    simp at h1
    subst h1
    rw [h.len, mi_snoc_hi]
    exact ⟨hu.sq, fun b e x => by have h1 := hB b x; have h2 := hu.blk b (slB_own e); omega⟩
end Go.Proofs.YthfpakjfdncphaaDoor
