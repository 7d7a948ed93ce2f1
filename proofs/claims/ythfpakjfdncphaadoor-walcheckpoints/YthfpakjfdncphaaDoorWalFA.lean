/- Rows of slices: append of them, and what the laws keep of records; room. -/
import Derived.Test.YthfpakjfdncphaaDoorWalCA
import Derived.Test.YthfpakjfdncphaaDoorWalW
namespace Go.Proofs.YthfpakjfdncphaaDoor
open Go Go.RowKit
set_option linter.unusedSimpArgs false
set_option linter.unusedVariables false
set_option maxRecDepth 100000

/-- A slice whose cells are these. -/
def RS (w : World) (v : Value) (us : List Value) : Prop :=
  ∃ ad cap, v = .slice ad us.length cap ∧ us.length ≤ cap ∧ ((us = [] ∧ (ad = none → cap = 0)) ∨ ∃ b o, ad = some ⟨b, o, none⟩ ∧ b < w.heap.size ∧ ∀ i u, us[i]? = some u → w.cell? ⟨b, o + i, none⟩ = some u)
theorem RS.nil (w : World) : RS w (.slice none 0 0) [] := ⟨none, 0, rfl, Nat.le_refl _, .inl ⟨rfl, fun _ => rfl⟩⟩
theorem RS.keep {w w' : World} {v : Value} {us : List Value} (h : RS w v us) (hs : w.heap.size ≤ w'.heap.size) (hk : ∀ b, v.ownBlock = some b → b < w.heap.size → w'.heap[b]? = w.heap[b]?) : RS w' v us := by
  obtain ⟨ad, cap, rfl, hc, h⟩ := h
  refine ⟨ad, cap, rfl, hc, h.imp id ?_⟩
  rintro ⟨b, o, rfl, hb, hm⟩
  refine ⟨b, o, rfl, Nat.lt_of_lt_of_le hb hs, fun i u hu => ?_⟩
  rw [World.cell?_of_block (w := w) (a := ⟨b, o + i, none⟩) (hk b rfl hb)]; exact hm i u hu
/-- A row of the call's own, of slices. -/
def OV (B0 : Nat) (w : World) (v : Value) (us : List Value) : Prop := w.ownsRow B0 32 1 v us.length us
theorem OV.rs {B0 : Nat} {w : World} {v : Value} {us : List Value} (h : OV B0 w v us) : RS w v us ∧ ∀ b, v.ownBlock = some b → B0 ≤ b ∧ b < w.heap.size := by
  rcases h.2 with ⟨rfl, h0⟩ | ⟨g, cap, cur, hv, hb, hg, hc, _, hs, ht⟩
  · have : us = [] := List.length_eq_zero_iff.1 h0
    subst this
    exact ⟨RS.nil w, fun b e => by cases e⟩
  · subst hv
    have hlt := (Array.getElem?_eq_some_iff.1 hg).1
    refine ⟨⟨_, cap, rfl, hc, .inr ⟨g, 0, rfl, hlt, fun i u hu => ?_⟩⟩, fun b e => by cases e; exact ⟨hb, hlt⟩⟩
    have e : (cur.toList.take (us.length * 1))[i]? = some u := by rw [ht]; exact hu
    have hi : i < us.length := (List.getElem?_eq_some_iff.1 hu).1
    rw [List.getElem?_take, if_pos (by omega), Array.getElem?_toList] at e
    simp only [World.cell?, hg, Nat.zero_add, Option.isSome_none, Bool.false_eq_true, if_false, e]
theorem OV.below {B0 : Nat} {w w' : World} {v : Value} {us : List Value} (h : OV B0 w v us) (hb : Below w.heap.size w w') : OV B0 w' v us := by
  refine ⟨h.1, ?_⟩
  rcases h.2 with h1 | ⟨g, cap, cur, rfl, hg, hh, rest⟩
  · exact .inl h1
  · exact .inr ⟨g, cap, cur, rfl, hg, by rw [hb.block g (Array.getElem?_eq_some_iff.1 hh).1]; exact hh, rest⟩
theorem app_us {ops : Array Oper} {rest : List Oper} {o : Oper} {a : Act} {Q : Exit → Act → World → Prop} {B0 : Nat} {wr : World} (hgd : o.guard = none) (s x : Operand) (ho : o.op = .call { callee := .builtin .append, args := #[s, x], argTypes := #[31, 31] })
    (hB : B0 ≤ wr.heap.size) (v : Value) (us : List Value) (hs : a.eval s = v) (h0 : OV B0 wr v us) (u : Value) (hx : a.eval x = u) (vs : List Value) (hg : RS wr u vs) (h1 : ∀ y ∈ vs, y.oneCell' = true) (hk : (us.length + vs.length) * 24 ≤ 140737488355328)
    (h : ∀ v' w', OV B0 w' v' (us ++ vs) → wr.grownBy w' v.ownBlock → (v'.ownBlock = v.ownBlock ∨ v'.ownBlock = some wr.heap.size) → wpList Tryd.prog ops Q rest (a.put o.dst v') w') : wpList Tryd.prog ops Q (o :: rest) a wr := by
  obtain ⟨i, hi, hz, hsz, hby⟩ := info_sl
  obtain ⟨ad, cap, rfl, hc, hg⟩ := hg
  have fin : ∀ v' w', w'.ownsRow B0 32 1 v' (us.length + vs.length) (us ++ vs) → wr.grownBy w' v.ownBlock → (v'.ownBlock = v.ownBlock ∨ v'.ownBlock = some wr.heap.size) → wpList Tryd.prog ops Q rest (a.put o.dst v') w' := by
    intro v' w' h1 h2 h4
    refine h v' w' ?_ h2 h4
    unfold OV
    rw [List.length_append]; exact h1
  rcases hg with ⟨rfl, hn⟩ | ⟨b, off, rfl, _, hm⟩
  · cases ad with
    | some A =>
      exact wpList_append_own_at wr hgd s x 31 ho B0 32 i (.slice none 0 0) 1 24 Tryd.underlying31 hi hz hsz hby rfl (by decide) v us.length us hs h0 A 0 cap [] hx rfl (fun j u hu => by simp at hu) (fun _ h => by cases h) (by simp at hk; unfold maxLen; omega) (by simp at hk; omega) hB (fun v' w' h1 h2 _ h4 => fin v' w' h1 h2 h4)
    | none =>
      obtain rfl := hn rfl
      refine wpList_append_own_none hgd s x 31 ho B0 32 i 1 Tryd.underlying31 hi v us.length us hs h0 hx (h v wr (by rw [List.append_nil]; exact h0) ?_ (.inl rfl))
      exact World.grownBy.refl _ _
  · refine wpList_append_own_at wr hgd s x 31 ho B0 32 i (.slice none 0 0) 1 24 Tryd.underlying31 hi hz hsz hby rfl (by decide) v us.length us hs h0 ⟨b, off, none⟩ vs.length cap vs hx (by omega) ?_ h1 (by unfold maxLen; omega) (by omega) hB (fun v' w' h1 h2 _ h4 => fin v' w' h1 h2 h4)
    intro j u hu
    rw [addr_add0]; exact hm j u hu
/-- What a law keeps of records: slices that the log doesn't touch. -/
structure Wt (S : Nat → Prop) (w : World) (v : Value) (us : List Value) (rs : List (List Int)) : Prop where
  len : us.length = rs.length
  src : RS w v us
  nb : ∀ b, v.ownBlock = some b → ¬ S b ∧ b < w.heap.size
  mem : ∀ (i : Nat) (u : Value), us[i]? = some u → Sq w u (mi rs i) ∧ ∀ b, slB u = some b → ¬ S b
theorem Wt.nil (S : Nat → Prop) (w : World) : Wt S w (.slice none 0 0) [] [] := ⟨rfl, RS.nil w, fun b e => (by cases e), fun i u h => by simp at h⟩
theorem Sq.own {w : World} {v : Value} {xs : List Int} (h : Sq w v xs) {b : Nat} (e : slB v = some b) : b < w.heap.size := h.lt e
theorem Wt.nx {S S' : Nat → Prop} {w w' : World} {v : Value} {us : List Value} {rs : List (List Int)} (h : Wt S w v us rs) (n : Nx S w S' w') : Wt S' w' v us rs := by
  have hno : ∀ b, b < w.heap.size → ¬ S b → ¬ S' b := fun b hb hn x => (n.d b x).elim hn (fun y => by omega)
  refine ⟨h.len, h.src.keep n.c.size (fun b e hb => n.c.other b hb (h.nb b e).1), fun b e => ⟨hno b (h.nb b e).2 (h.nb b e).1, Nat.lt_of_lt_of_le (h.nb b e).2 n.c.size⟩, fun i u hu => ?_⟩
  obtain ⟨m1, m2⟩ := h.mem i u hu
  exact ⟨m1.chg n.c m2, fun b e => hno b (m1.own e) (m2 b e)⟩
theorem Wt.ll {S : Nat → Prop} {w : World} {v : Value} {us : List Value} {rs : List (List Int)} (h : Wt S w v us rs) : LL w v rs := by
  obtain ⟨ad, cap, rfl, hc, hm⟩ := h.src
  rw [h.len] at hc ⊢
  refine ⟨ad, cap, rfl, hc, ?_⟩
  rcases hm with ⟨rfl, h0⟩ | ⟨b, o, rfl, hb, hm⟩
  · exact .inl ⟨List.length_eq_zero_iff.1 h.len.symm, h0⟩
  · refine .inr ⟨b, o, rfl, hb, fun i hi => ?_⟩
    have hlt : i < us.length := by rw [h.len]; exact hi
    have hu : us[i]? = some us[i] := List.getElem?_eq_getElem hlt
    exact ⟨_, hm i _ hu, (h.mem i _ hu).1.sl⟩
theorem Wt.one {S : Nat → Prop} {w : World} {v : Value} {us : List Value} {rs : List (List Int)} (h : Wt S w v us rs) : ∀ y ∈ us, y.oneCell' = true := by
  intro y hy
  obtain ⟨i, hi, rfl⟩ := List.getElem_of_mem hy
  obtain ⟨ad, cap, e, -⟩ := (h.mem i _ (List.getElem?_eq_getElem hi)).1.sl
  rw [e]; rfl
/-- One more record. -/
theorem Wt.snoc {S : Nat → Prop} {B0 : Nat} {w : World} {v v' : Value} {us : List Value} {rs : List (List Int)} (h : Wt S w v us rs) (hB : ∀ b, S b → b < B0) {u : Value} {p : List Int} (hu : Sq w u p) (hn : ∀ b, slB u = some b → ¬ S b) {w' : World} (hw : Chg S w w') (ho : OV B0 w' v' (us ++ [u])) : Wt S w' v' (us ++ [u]) (rs ++ [p]) := by
  obtain ⟨o1, o2⟩ := ho.rs
  refine ⟨by simp [h.len], o1, fun b e => ⟨fun x => by have := hB b x; have := (o2 b e).1; omega, (o2 b e).2⟩, fun i y hy => ?_⟩
  rcases Nat.lt_or_ge i us.length with hl | hl
  · rw [List.getElem?_append_left hl] at hy
    rw [mi_app_lo (by rw [← h.len]; exact hl)]
    obtain ⟨m1, m2⟩ := h.mem i y hy
    exact ⟨m1.chg hw m2, m2⟩
  · rw [List.getElem?_append_right hl] at hy
    obtain ⟨h0, h1⟩ := List.getElem?_eq_some_iff.1 hy
    have ei : i = us.length := by simp at h0; omega
    subst ei
    simp at h1
    subst h1
    rw [h.len, mi_snoc_hi]
    exact ⟨hu.chg hw hn, hn⟩
theorem mi_szr (xs : List (List Int)) {k : Nat} (hk : k < xs.length) : szr (xs.take (k + 1)) = szr (xs.take k) + (mi xs k).length + 64 := by
  rw [take_snoc _ _ hk, szr_app]
  simp [szr]; omega
theorem szr_take (xs : List (List Int)) (k : Nat) : szr (xs.take k) ≤ szr xs := by
  have := szr_app (xs.take k) (xs.drop k)
  rw [List.take_append_drop] at this
  omega
set_option maxHeartbeats 1000000 in
theorem room_any (rs : List (List Int)) (n : Nat) (v : Value) (w : World) (hv : LL w v rs) (hz : szr rs ≤ 140737488355328) (hn : 64 ≤ n ∧ n ≤ 65536) :
    Calls Tryd.prog 15 #[v, .int .i64 (n : Int)] w fun e w' => e = .returned (.bool (decide (szr rs ≤ (n / 2 - 8) * 32))) ∧ w' = w := by
  obtain ⟨ad, cap, rfl, hc, hx⟩ := hv
  have HX : Hid _ := hx
  have HZ : Hid (szr rs ≤ 140737488355328) := hz
  have hlen : rs.length ≤ 2199023255552 := by have := szr_len rs; omega
  clear hx hz
  go_enter Tryd.func15, Tryd.ntmps15
  go_wp2_with fail
  go_loopw [5, 9] (fun nv i wr => ∃ k : Nat, k ≤ rs.length ∧ i = .int .i64 (k : Int) ∧ nv = .int .i64 (szr (rs.take k) : Int) ∧ wr = w) (fun _ i _ => rs.length - (intOf i).toNat)
  case atStart => exact ⟨0, Nat.zero_le _, rfl, rfl, rfl⟩
  case round =>
    obtain ⟨k, hk, rfl, rfl, rfl⟩ := hrel
    by_cases hlt : k < rs.length
    · rcases HX.out with ⟨h0, _⟩ | ⟨b, o, rfl, hlb, hm⟩
      · rw [h0] at hlt; simp at hlt
      · obtain ⟨u, hc0, hu⟩ := hm k hlt
        obtain ⟨uad, ucp, hue, -, -⟩ := hu
        subst hue
        have hs1 := mi_szr rs hlt
        have hs2 := szr_take rs (k + 1)
        have hs3 := HZ.out
        obtain ⟨A, hA⟩ : ∃ A, szr (rs.take k) = A := ⟨_, rfl⟩
        obtain ⟨M, hM⟩ : ∃ M, (mi rs k).length = M := ⟨_, rfl⟩
        have HA : Hid (szr (rs.take (k + 1)) = A + M + 64) := by show _ = _; rw [hs1, hA, hM]
        rw [hA, hM] at hs1
        rw [hA]
        rw [hM] at hc0
        have hkk : (k : Int) < (rs.length : Int) := by omega
        clear hm hA hM
        go_wp2_with fail
        go_roundw
        case rel => exact ⟨k + 1, hlt, by go_num, by rw [HA.out]; show Value.int .i64 _ = Value.int .i64 _; congr 1, trivial⟩
        case measure => simp [intOf]; omega
    · obtain rfl : k = rs.length := by omega
      rw [List.take_length]
      have hz := HZ.out
      obtain ⟨A, hA⟩ : ∃ A, szr rs = A := ⟨_, rfl⟩
      have HA : Hid (szr rs = A) := hA
      rw [hA] at hz
      rw [hA]
      clear hA
      go_wp2_with fail
      go_ret
      refine ⟨?_, rfl⟩
      show Ending.returned (Value.bool (decide ((A : Int) ≤ ((n : Int) / 2 - 8) * 32))) = Ending.returned (Value.bool (decide (szr rs ≤ (n / 2 - 8) * 32)))
      rw [HA.out]
      congr 2
      exact decide_eq_decide.2 ⟨fun h => by omega, fun h => by omega⟩
end Go.Proofs.YthfpakjfdncphaaDoor
/- The first Append on a new disk, and Records behind it. -/
namespace Go.Proofs.YthfpakjfdncphaaDoor
open Go Go.RowKit
set_option linter.unusedSimpArgs false
set_option linter.unusedVariables false
set_option maxRecDepth 100000

/-- The log behind the first record. -/
def l1 (g n : Nat) (p : List Int) : Lo := { g := g, t := 1, f0 := z64, f1 := hd (JN 1 [p]), rs := [p], en := hfF n 1 + fl (JS [p]), lo := false }
theorem open_new {F : Nat → Prop} {w : World} {g n : Nat} (h : PD F w g (dk0 n)) (hT : Tb w) (hA : Ap F) (h64 : 64 ≤ n) :
    Calls Tryd.prog 22 #[.pointer (some ⟨g, 0, none⟩)] w fun e w' => e = .returned (.tuple #[.pointer (some ⟨w.heap.size, 0, none⟩), .int .i64 0]) ∧ AftL F w w' g (dk0 n) w.heap.size (l0 g) := by
  refine (open_blank h (dk0_up n).2.2.2 hT hA h64 rfl rfl (fun i _ => dk0_blank n _ _)).mono fun e w' ⟨h1, h2⟩ => ⟨h1, ?_⟩
  rw [dk0_rd, dk0_rd] at h2; exact h2
theorem append_new {S : Nat → Prop} {w : World} {g n lg : Nat} (h : WL S w g (dk0 n) lg (l0 g)) (p : List Int) (v : Value) (hv : Sl w v p) (hb : Byt p) (hp : p.length ≤ 65536) (hn : fl (16 + p.length) < n / 2) :
    Calls Tryd.prog 12 #[.pointer (some ⟨lg, 0, none⟩), v] w fun e w' => e = .returned (.int .i64 0) ∧ AftL S w w' g (dk1 n p) lg (l1 g n p) := by
  refine (append_zero h rfl rfl (dk0_rd n _).symm (dk0_rd n _).symm rfl p v hv hp (fun z w' => z = 0 ∧ AftL S w w' g (dk1 n p) lg (l1 g n p)) (fun W u hbW hu => ?_)).mono ?_
  · have hR : Rok [p] := fun m hm => by simp at hm; subst hm; exact ⟨hb, hp⟩
    have hz : (lay (dk0 n) (hfF n 1 : Int) (JN 1 [p])).1 = 0 := by rw [first_lay hn]
    have hq := begin_ok (h.below hbW) (show (0 : Nat) + 1 < 18446744073709551616 by omega) [p] u hu hR (by simp) (show (0 : Nat) ≤ 549755813888 by omega) (first_fits hn) hz
    refine hq.mono fun e w' ⟨h1, h2⟩ => ⟨0, h1, rfl, AftL.trans (chg_of_below hbW) (fun b hb => .inl hb) ?_⟩
    have h3 : AftL S W w' g (lay (dk0 n) (hfF n 1 : Int) (JN 1 [p])).2 lg { g := g, t := 1, f0 := z64, f1 := rdV (lay (dk0 n) (hfF n 1 : Int) (JN 1 [p])).2 (hfF n 1 : Int), rs := [p], en := hfF n 1 + fl (JS [p]), lo := false } := h2
    rw [first_lay hn] at h3
    show AftL S W w' g (dk1 n p) lg { g := g, t := 1, f0 := z64, f1 := hd (JN 1 [p]), rs := [p], en := hfF n 1 + fl (JS [p]), lo := false }
    rw [← (first_heads hn).2]
    exact h3
  · rintro e w' ⟨z, h1, rfl, h2⟩
    exact ⟨h1, h2⟩
theorem records_new {S : Nat → Prop} {w : World} {g n lg : Nat} {p : List Int} (h : WL S w g (dk1 n p) lg (l1 g n p)) (hp : p.length ≤ 65536) (hn : fl (16 + p.length) < n / 2) (hn2 : n ≤ 65536) :
    Calls Tryd.prog 17 #[.pointer (some ⟨lg, 0, none⟩)] w fun e w' => ∃ v, e = .returned v ∧ RcP S w w' g (dk1 n p) lg (l1 g n p) v := by
  have hfe := first_end hn
  have hft := first_fits hn
  have hT : hfT n 1 ≤ 65536 := by rw [(half_one n).2.1]; omega
  refine records_core (l1 := l1 g n p) (by simp [l1]) (fun m hm => by simp [l1] at hm; subst hm; omega) ?_
  refine (refresh_any h rfl rfl (first_heads hn).1.symm (first_heads hn).2.symm (by simp [l1]) (by simp [l1]) (show hfF n 1 + fl (JS [p]) ≤ 65536 by omega) (by simp [l1])).mono ?_
  rintro e w' ⟨h1, ns, e', h2, h3, h4⟩
  obtain ⟨rfl, rfl⟩ := Frs.one h2 h3 (show Frs (dk1 n p) (hfT (dk1 n p).n (l1 g n p).t) (l1 g n p).en [] (l1 g n p).en from rfl) hfe
  refine ⟨h1, ?_⟩
  rw [List.append_nil] at h4
  exact h4
end Go.Proofs.YthfpakjfdncphaaDoor
/- awake. -/
namespace Go.Proofs.YthfpakjfdncphaaDoor
open Go Go.RowKit
set_option linter.unusedSimpArgs false
set_option linter.unusedVariables false
set_option maxRecDepth 100000

/-- A log in memory that is newer than B. -/
def LA (B : Nat) (w0 w : World) (g : Nat) (s : Dk) (lg : Nat) (l : Lo) : Prop := ∃ S, WL S w g s lg l ∧ (∀ b, S b → B ≤ b) ∧ Below B w0 w
theorem AftL.la {S : Nat → Prop} {B : Nat} {w0 w w' : World} {g : Nat} {s : Dk} {lg : Nat} {l : Lo} (h : AftL S w w' g s lg l) (hS : ∀ b, S b → B ≤ b) (hb : Below B w0 w) (hB : B ≤ w.heap.size) : LA B w0 w' g s lg l := by
  obtain ⟨S', h1, h2, h3⟩ := h
  exact ⟨S', h1, fun b x => (h3 b x).elim (hS b) (fun y => Nat.le_trans hB y), hb.trans (h2.below hB hS)⟩
theorem LA.below {B : Nat} {w0 w w' : World} {g : Nat} {s : Dk} {lg : Nat} {l : Lo} (h : LA B w0 w g s lg l) (hb : Below w.heap.size w w') (hB : B ≤ w.heap.size) : LA B w0 w' g s lg l := by
  obtain ⟨S, h1, h2, h3⟩ := h
  exact ⟨S, h1.below hb, h2, h3.trans (hb.mono hB)⟩
theorem RcP.la {S : Nat → Prop} {B : Nat} {w0 w w' : World} {g : Nat} {s : Dk} {lg : Nat} {l : Lo} {v : Value} (h : RcP S w w' g s lg l v) (hS : ∀ b, S b → B ≤ b) (hb : Below B w0 w) (hB : B ≤ w.heap.size) : LA B w0 w' g s lg l ∧ ∃ B' us, B ≤ B' ∧ OL B' w' v us l.rs := by
  obtain ⟨S', w1, us, h1, h2, h3, h4, h5⟩ := h
  have hl : LA B w0 w1 g s lg l := ⟨S', h1, fun b x => (h3 b x).elim (hS b) (fun y => Nat.le_trans hB y), hb.trans (h2.below hB hS)⟩
  have hB1 : B ≤ w1.heap.size := Nat.le_trans hB h2.size
  exact ⟨hl.below h5 hB1, _, us, hB1, h4⟩
set_option maxHeartbeats 2000000 in
theorem awake_any (w : World) (hT : Tb w) : Calls Tryd.prog 9 #[] w fun e w' => e = .returned (.bool true) ∧ Below w.heap.size w w' := by
  have HT : Hid (Tb w) := hT
  clear hT
  go_enter Tryd.func9, Tryd.ntmps9
  go_wp2_with fail
  refine (new_any w 64 (by omega) (by omega)).mono ?_
  rintro e w1 ⟨g, rfl, F, h1, h2, h3⟩
  have HP : Hid (PD F w1 g (dk0 64)) := h1
  have HB1 : Hid (Below w.heap.size w w1) := h2
  have HF : Hid (∀ b, F b → w.heap.size ≤ b) := h3
  clear h1 h2 h3
  go_wp2_with fail
  refine (open_new HP.out (HT.out.below HB1.out) ⟨fun x => by have h1 := HF.out _ x; have h2 := HT.out.lt.1; omega, fun x => by have h1 := HF.out _ x; have h2 := HT.out.lt.2; omega⟩ (by omega)).mono ?_
  rintro e w2 ⟨rfl, h1⟩
  obtain ⟨lg, hlg⟩ : ∃ lg, w1.heap.size = lg := ⟨_, rfl⟩
  rw [hlg] at h1 ⊢
  have HL2 : Hid (LA w.heap.size w w2 g (dk0 64) lg (l0 g)) := h1.la HF.out HB1.out HB1.out.size
  clear h1 hlg
  have hcv := conv_same 1 1 #[.int .u8 97] 5 w2
  have hB2 : w.heap.size ≤ w2.heap.size := by obtain ⟨S, _, _, h⟩ := HL2.out; exact h.size
  have HZ : Hid (w.heap.size ≤ w2.heap.size) := hB2
  clear hB2
  have HBa : Hid (Below w2.heap.size w2 (w2.alloc (.cells #[.int .u8 97] 5 (1, 2)))) := (Below.refl _ w2).alloc (Nat.le_refl _) _
  have HSa : Hid (Sl (w2.alloc (.cells #[.int .u8 97] 5 (1, 2))) (.slice (some ⟨w2.heap.size, 0, none⟩) 1 1) [97]) := by
    refine ⟨_, 1, rfl, by simp, .inr ⟨w2.heap.size, 0, rfl, by simp, fun i hi => ?_⟩⟩
    have : i = 0 := by simp at hi; omega
    subst this
    have e : (w2.alloc (.cells #[.int .u8 97] 5 (1, 2))).heap[w2.heap.size]? = some (.cells #[.int .u8 97] 5 (1, 2)) := by show (w2.heap.push _)[w2.heap.size]? = _; simp
    unfold World.cell?; rw [e]; rfl
  go_wp2_with fail
  obtain ⟨S2, hw2, hs2, hb2⟩ := HL2.out.below HBa.out HZ.out
  refine (append_new hw2 [97] _ HSa.out (by intro z hz; simp at hz; subst hz; decide) (by simp) (by decide)).mono ?_
  rintro e w3 ⟨rfl, h3⟩
  have HL3 : Hid (LA w.heap.size w w3 g (dk1 64 [97]) lg (l1 g 64 [97])) := h3.la hs2 hb2 (Nat.le_trans HZ.out HBa.out.size)
  clear h3 hw2 hs2 hb2 HSa HBa HL2
  go_wp2_with fail
  obtain ⟨S3, hw3, hs3, hb3⟩ := HL3.out
  refine (records_new hw3 (by simp) (by decide) (by omega)).mono ?_
  rintro e w4 ⟨v4, rfl, h4⟩
  obtain ⟨h5, B', us, hB', ho⟩ := h4.la hs3 hb3 hb3.size
  have HB4 : Hid (Below w.heap.size w w4) := by obtain ⟨_, _, _, h⟩ := h5; exact h
  obtain ⟨ad, cap, hv, hc, hx⟩ := ho.ll
  subst hv
  rcases hx with ⟨h0, _⟩ | ⟨b, o, rfl, hlt, hm⟩
  · cases h0
  obtain ⟨u, hc0, hu⟩ := hm 0 (by simp [l1])
  have hu' : Sl w4 u [97] := hu
  have hstr : (convert 32 9 u).run Tryd.prog w4 = .ok (.string (strOfNums [97])) w4 := hu'.str
  rw [Nat.add_zero] at hc0
  obtain ⟨uad, ucp, hue, -, -⟩ := hu'
  have hue' : u = .slice uad 1 ucp := hue
  subst hue'
  clear hu hue
  clear h4 h5 ho hm hw3 hs3 hb3
  go_wp2_with fail
  go_ret
  have hS : ((strOfNums [97]).toList == [97]) = true := by first | rfl | kernel_rfl | decide
  exact ⟨congrArg (fun b => Ending.returned (Value.bool b)) hS, HB4.out⟩
end Go.Proofs.YthfpakjfdncphaaDoor
/- WalKeeps: what the law's own memory leaves of a log. -/
namespace Go.Proofs.YthfpakjfdncphaaDoor
open Go Go.RowKit
set_option linter.unusedSimpArgs false
set_option linter.unusedVariables false
set_option maxRecDepth 100000

theorem WL.keep {S : Nat → Prop} {w w' : World} {g : Nat} {s : Dk} {lg : Nat} {l : Lo} (h : WL S w g s lg l) (hs : w.heap.size ≤ w'.heap.size) (k : ∀ b, S b → w'.heap[b]? = w.heap[b]?) (k1 : w'.heap[0]? = w.heap[0]?) (k2 : w'.heap[1]? = w.heap[1]?) : WL S w' g s lg l := by
  obtain ⟨F, H, rv, us, h⟩ := h
  exact ⟨F, H, rv, us, h.pd.keep hs (fun b hb => k b (h.sf b hb)), h.lw.keep hs (fun b hb => k b (h.sh b hb)), h.dk, h.ap, h.sf, h.sh, h.bt, h.tb.keep k1 k2, h.at', fun b x => Nat.lt_of_lt_of_le (h.sl b x) hs⟩
/-- A change of blocks that are not the log's. -/
theorem WL.chg {S G : Nat → Prop} {w w' : World} {g : Nat} {s : Dk} {lg : Nat} {l : Lo} (h : WL S w g s lg l) (c : Chg G w w') (d : ∀ b, G b → ¬ S b) (a : Ap G) : WL S w' g s lg l := by
  obtain ⟨F, H, rv, us, hx⟩ := h
  exact WL.keep ⟨F, H, rv, us, hx⟩ c.size (fun b hb => c.other b (hx.sl b hb) (fun x => d b x hb)) (c.other _ hx.tb.lt.1 a.1) (c.other _ hx.tb.lt.2 a.2)
theorem WL.lt {S : Nat → Prop} {w : World} {g : Nat} {s : Dk} {lg : Nat} {l : Lo} (h : WL S w g s lg l) {b : Nat} (hb : S b) : b < w.heap.size := by
  obtain ⟨F, H, rv, us, hx⟩ := h
  exact hx.sl b hb
/-- A new disk of 256 sectors, opened. -/
def KA (B : Nat) (w0 w : World) (g lg : Nat) : Prop := LA B w0 w g (dk0 256) lg (l0 g)
theorem opened_new {F : Nat → Prop} {B : Nat} {w0 w : World} {g n : Nat} (v : Value) (h : PD F w g (dk0 n)) (hT : Tb w) (h64 : 64 ≤ n) (hF : ∀ b, F b → B ≤ b) (hb : Below B w0 w) (hB : B ≤ w.heap.size) (hTB : 0 < B ∧ 1 < B) :
    Calls Tryd.prog 11 #[.pointer (some ⟨g, 0, none⟩), v] w fun e w' => ∃ lg, e = .returned (.tuple #[.pointer (some ⟨lg, 0, none⟩), .bool true]) ∧ LA B w0 w' g (dk0 n) lg (l0 g) := by
  refine opened_ok _ v w (fun lg w' => LA B w0 w' g (dk0 n) lg (l0 g)) ((open_new h hT ⟨fun x => by have := hF _ x; omega, fun x => by have := hF _ x; omega⟩ h64).mono fun e w' ⟨h1, h2⟩ => ⟨_, h1, h2.la hF hb hB⟩)
set_option maxHeartbeats 2000000 in
theorem keeps_long (p : List Int) (v : Value) (small : Int) (w : World) (hT : Tb w) (hv : Sl w v p) (hl : 1000 < p.length) :
    Calls Tryd.prog 8 #[v, .int .i64 small] w fun e w' => e = .returned (.bool true) ∧ Below w.heap.size w w' := by
  have HT : Hid (Tb w) := hT
  obtain ⟨ad, cap, rfl, hc, -⟩ := hv
  have g1 : (1000 : Int) < (p.length : Int) := by omega
  clear hT hc
  go_enter Tryd.func8, Tryd.ntmps8
  go_wp2_with fail
  refine (awake_any w HT.out).mono ?_
  rintro e w1 ⟨rfl, hb1⟩
  have HB1 : Hid (Below w.heap.size w w1) := hb1
  clear hb1
  go_wp2_with fail
  refine (new_any w1 256 (by omega) (by omega)).mono ?_
  rintro e w2 ⟨g, rfl, F, h1, h2, h3⟩
  have HP : Hid (PD F w2 g (dk0 256)) := h1
  have HB2 : Hid (Below w1.heap.size w1 w2) := h2
  have HF : Hid (∀ b, F b → w1.heap.size ≤ b) := h3
  clear h1 h2 h3
  go_wp2_with fail
  have ht1 := HT.out.below HB1.out
  refine (opened_new (B := w1.heap.size) (w0 := w1) _ HP.out (ht1.below HB2.out) (by omega) HF.out HB2.out HB2.out.size ht1.lt).mono ?_
  rintro e w3 ⟨lg, rfl, h3⟩
  have HBW : Hid (Below w.heap.size w w3) := by
    obtain ⟨_, _, _, h⟩ := h3
    exact HB1.out.trans (h.mono HB1.out.size)
  clear h3
  go_wp2_with fail
  go_ret
  exact ⟨rfl, HBW.out⟩
end Go.Proofs.YthfpakjfdncphaaDoor
