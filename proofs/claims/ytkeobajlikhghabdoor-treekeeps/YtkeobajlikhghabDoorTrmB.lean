/- Plain mathematics: leaves' nodes in order. -/
import Derived.Test.YtkeobajlikhghabDoorTrsB
import Derived.Test.YtkeobajlikhghabDoorTrmA
import Derived.Test.YtkeobajlikhghabDoorTrfB
namespace Go.Proofs.YtkeobajlikhghabDoor
open Go Go.RowKit
set_option linter.unusedSimpArgs false
set_option linter.unusedVariables false
set_option maxRecDepth 100000

/-- Leaves' nodes of which no two have one label, in order. -/
def okl (ls : List Lf) : Prop := ∃ s : List Nd, s.Perm (ls.map ln) ∧ apt s = true
open Classical in
noncomputable def so (ls : List Lf) : List Nd := if h : okl ls then Classical.choose h else []
theorem so_spec {ls : List Lf} (h : okl ls) : (so ls).Perm (ls.map ln) ∧ apt (so ls) = true := by
  unfold so; rw [dif_pos h]; exact Classical.choose_spec h
theorem map_ok {ls : List Lf} (hk : ∀ x ∈ ls, x.Ok) {s : List Nd} (h : s.Perm (ls.map ln)) : ∀ x ∈ s, x.Ok ∧ gd x = true ∧ x.n = 256 := fun x hx => by
  obtain ⟨y, hy, rfl⟩ := List.mem_map.1 (h.mem_iff.1 hx)
  exact ⟨ln_ok (hk y hy), ln_gd (hk y hy), rfl⟩
theorem leaf_apt : ∀ (s : List Nd), (∀ x ∈ s, x.Ok ∧ gd x = true ∧ x.n = 256) → s.Pairwise (fun a b => pf a.p 256 < pf b.p 256) → apt s = true
  | [], _, _ => rfl
  | [a], h, _ => (h a (by simp)).2.1
  | a :: b :: r, h, hp => by
    have hab := (List.pairwise_cons.1 hp).1 b (by simp)
    obtain ⟨ka, ga, na⟩ := h a (by simp)
    obtain ⟨kb, gb, nb⟩ := h b (by simp)
    have ih := leaf_apt (b :: r) (fun x hx => h x (List.mem_cons_of_mem _ hx)) (List.pairwise_cons.1 hp).2
    simp only [apt, ap2, Bool.and_eq_true]
    refine ⟨ga, ⟨(ltb_iff ka.p kb.p).2 hab, ?_⟩, ih⟩
    unfold hl
    rw [ga, Bool.true_and, na]
    have : ¬ (256 : Int).toNat ≤ cm a.p b.p 256 := fun q => by
      have := ((cm_ge (a := a.p) (b := b.p) (m := 256) (r := 256) (Nat.le_refl _)).1 q).pf
      omega
    rw [decide_eq_false this]; rfl
theorem rise_uniq {s t : List Nd} (h : s.Perm t) (hs : s.Pairwise (fun a b => pf a.p 256 < pf b.p 256)) (ht : t.Pairwise (fun a b => pf a.p 256 < pf b.p 256)) : s = t := by
  induction s generalizing t with
  | nil => exact (List.nil_perm.1 h).symm
  | cons a s ih =>
    cases t with
    | nil => exact absurd h.length_eq (by simp)
    | cons b t =>
      have h1 := (List.pairwise_cons.1 hs)
      have h2 := (List.pairwise_cons.1 ht)
      have e : a = b := by
        rcases List.mem_cons.1 (h.mem_iff.1 (List.mem_cons_self (a := a) (l := s))) with q | q
        · exact q
        · rcases List.mem_cons.1 (h.mem_iff.2 (List.mem_cons_self (a := b) (l := t))) with r | r
          · exact r.symm
          · have := h2.1 a q; have := h1.1 b r; omega
      subst e
      rw [ih ((List.perm_cons a).1 h) h1.2 h2.2]
theorem so_uniq {ls : List Lf} (hk : ∀ x ∈ ls, x.Ok) {s : List Nd} (h : s.Perm (ls.map ln)) (ha : apt s = true) : okl ls ∧ so ls = s := by
  have ho : okl ls := ⟨s, h, ha⟩
  obtain ⟨h1, h2⟩ := so_spec ho
  exact ⟨ho, rise_uniq (h1.trans h.symm) (apt_ris (fun x hx => (map_ok hk h1 x hx).1) h2).up (apt_ris (fun x hx => (map_ok hk h x hx).1) ha).up⟩
theorem so_rise {ls : List Lf} (hk : ∀ x ∈ ls, x.Ok) {s : List Nd} (h : s.Perm (ls.map ln)) (hs : s.Pairwise (fun a b => pf a.p 256 < pf b.p 256)) : okl ls ∧ so ls = s :=
  so_uniq hk h (leaf_apt s (map_ok hk h) hs)
theorem okl_ne {ls : List Lf} (hk : ∀ x ∈ ls, x.Ok) (h : okl ls) : ls.Pairwise (fun a b => pf a.p 256 ≠ pf b.p 256) := by
  obtain ⟨s, h1, h2⟩ := h
  have hr := (apt_ris (fun x hx => (map_ok hk h1 x hx).1) h2).up
  have hn : (s.map fun x => pf x.p 256).Nodup := List.pairwise_map.2 (hr.imp (fun q => by omega))
  have hn2 : ((ls.map ln).map fun x => pf x.p 256).Nodup := (h1.map _).nodup_iff.1 hn
  rw [List.map_map] at hn2
  exact List.pairwise_map.1 hn2
/-- Sorted, and apart just if no two have one label. -/
theorem sorted_apt {ls : List Lf} (hk : ∀ x ∈ ls, x.Ok) {s : List Nd} (h : s.Perm (ls.map ln)) (hs : s.Pairwise (fun a b => pf a.p 256 ≤ pf b.p 256)) (ho : okl ls) : apt s = true ∧ so ls = s := by
  have hn := okl_ne hk ho
  have hn2 : ((ls.map ln).map fun x => pf x.p 256).Nodup := by rw [List.map_map]; exact List.pairwise_map.2 hn
  have hn3 : (s.map fun x => pf x.p 256).Nodup := (h.map _).nodup_iff.2 hn2
  have hp := hs.and (List.pairwise_map.1 hn3)
  have hlt : s.Pairwise (fun a b => pf a.p 256 < pf b.p 256) := hp.imp (fun q => by have h1 := q.1; have h2 := q.2; omega)
  have ha := leaf_apt s (map_ok hk h) hlt
  exact ⟨ha, (so_uniq hk h ha).2⟩
theorem so_len {ls : List Lf} (h : okl ls) : (so ls).length = ls.length := by rw [(so_spec h).1.length_eq, List.length_map]
theorem so_ok {ls : List Lf} (hk : ∀ x ∈ ls, x.Ok) (h : okl ls) : ∀ x ∈ so ls, x.Ok := fun x hx => (map_ok hk (so_spec h).1 x hx).1
theorem so_rsn {ls : List Lf} (hk : ∀ x ∈ ls, x.Ok) (h : okl ls) : Rsn (so ls) := apt_rsn (so_ok hk h) (so_spec h).2
/-- A nought or more: how one row of bytes stands to another. -/
theorem cmp_swo {a b : List Int} (ha : L32 a) (hb : L32 b) : cmpI a b < 0 ↔ pf a 256 < pf b 256 := by
  rw [← ltb_iff ha hb]
  have := cmp_ltb a b (by rw [ha.len, hb.len]) ha.byt hb.byt
  cases h : ltb a b with
  | false => rw [h] at this; have := this.2 rfl; simp; omega
  | true => rw [h] at this; simp at this ⊢; omega
end Go.Proofs.YtkeobajlikhghabDoor
/- Package tree: leaving, opened. -/
namespace Go.Proofs.YtkeobajlikhghabDoor
open Go Go.RowKit
set_option linter.unusedSimpArgs false
set_option linter.unusedVariables false
set_option maxRecDepth 100000

def lvcf (D c e : Nat) (p y : List Int) : Nat → Value
  | 0 => .pointer (some ⟨D, 1, none⟩)
  | 1 => .agg (bv p).toArray
  | 2 => .agg (bv y).toArray
  | 3 => .int .i64 (c : Int)
  | 4 => .int .i64 (e : Int)
  | 5 => .bool (!decide ((c : Int) = (e : Int)))
  | 6 => .bool (!decide ((c : Int) = (e : Int)))
  | _ => undef
set_option maxHeartbeats 2000000 in
theorem lvclosure_any (x : Nd) (hx : x.Ok) (y : List Int) (hy : L32 y) (bn be e : Nat) (w : World) (hb : bn < w.heap.size) (hr : w.rangeAt bn 0 (bv y)) (he : w.cell? ⟨be, 0, none⟩ = some (.int .i64 (e : Int))) :
    Calls Tryd.prog 46 #[.agg (nc x).toArray, .pointer (some ⟨bn, 0, none⟩), .pointer (some ⟨be, 0, none⟩)] w fun e' w' => e' = .returned (.bool (!decide (cmy y x = e))) ∧ Below w.heap.size w w' := by
  have ra := range_alloc w (nc x) 35 (0, 0)
  have s1 := nc_size hx
  have lt_of : ∀ (q : Nat) (u : Value), w.cell? ⟨q, 0, none⟩ = some u → q < w.heap.size := fun q u h => by
    unfold World.cell? at h
    cases hh : w.heap[q]? with
    | none => simp only [hh] at h; cases h
    | some X => exact (Array.getElem?_eq_some_iff.1 hh).1
  have hle := lt_of _ _ he
  obtain ⟨p, hp⟩ : ∃ p, x.p = p := ⟨_, rfl⟩
  obtain ⟨c, hc⟩ : ∃ c, cmy y x = c := ⟨_, rfl⟩
  have HP : Hid (L32 p) := by rw [← hp]; exact hx.p
  have HCM : Hid (∀ W : World, Calls Tryd.prog 39 #[.agg (bv p).toArray, .agg (bv y).toArray] W fun e w' => e = .returned (.int .i64 (c : Int)) ∧ Below W.heap.size W w') := fun W => by rw [← hc, ← hp]; exact common_any x.p y W hx.p hy
  obtain ⟨A, hA⟩ : ∃ A, (nc x).toArray = A := ⟨_, rfl⟩
  rw [hA] at ra s1 ⊢
  obtain ⟨U, hU⟩ : ∃ U, w.alloc (.cells A 35) = U := ⟨_, rfl⟩
  have sU : U.heap.size = w.heap.size + 1 := by rw [← hU]; simp
  have bU : Below w.heap.size w U := by rw [← hU]; exact (Below.refl _ w).alloc (Nat.le_refl _) _
  rw [hU] at ra
  have BU : Hid (Below w.heap.size w U) := bU
  have RY : Hid (U.rangeAt bn 0 (bv y)) := range_below hr bU hb
  have LN : Hid (bn < U.heap.size) := by show bn < _; omega
  have HE : Hid (U.cell? ⟨be, 0, none⟩ = some (.int .i64 (e : Int))) := (bU.cell (p := ⟨be, 0, none⟩) hle).trans he
  have LE : Hid (be < U.heap.size) := by show be < _; omega
  have HY : Hid (L32 y) := hy
  obtain ⟨D, hD⟩ : ∃ D, w.heap.size = D := ⟨_, rfl⟩
  rw [hD] at ra sU
  have RP : Hid (U.rangeAt D 1 (bv p)) := by have := nc_p ra; rw [hp] at this; exact this
  have hDX : Hid (D < U.heap.size) := by show D < _; omega
  rw [hc]
  clear ra bU hr hx hy hp hc he sU hle lt_of hA hb
  go_enter Tryd.func46, Tryd.ntmps46
  go_upto_region 1 with (fail)
  try rw [hU]
  try rw [hD]
  clear hU hD
  refine RU.wp_rgn' [] (lvcf D c e p y) (fun _ => 0) (gΩ U) (by kernel_rfl) (by kernel_rfl) (show Below U.heap.size U _ from (Below.refl _ _).drew) ?_ ?_
  · refine ⟨?_, ?_, ?_, ?_, ?_, ?_, ?_, trivial⟩
    · refine RU.ObT.pure rfl rfl rfl (fun a V hf hp ev he hc W => ?_)
      have q3 : ev (.tmp 3) = .pointer (some ⟨D, 0, none⟩) := (he (.tmp 3)).trans (hf 3 rfl)
      simp only [List.getElem_toArray, List.getElem_cons_succ, List.getElem_cons_zero, execOp, Option.map_some, Option.map_none]; rw [q3]
      first | (go_simp; done) | (go_simp; rfl) | rfl
    · refine RU.ObT.silent rfl (fun a W k0 V hO hf hp hk => ?_)
      have hO' : Below U.heap.size U W := hO
      have q5 : a.eval (.tmp 5) = .pointer (some ⟨D, 1, none⟩) := hp 0 5 rfl
      exact RU.ob_op rfl (RU.wanted_none rfl) (wp_load_mid 23 (.tmp 5) rfl (D) (1) q5 (bv p) _ (range_below RP.out hO' hDX.out) Tryd.underlying23 rfl (size_l32 HP.out) ⟨rfl, hO⟩)
    · refine RU.ObT.silent rfl (fun a W k0 V hO hf hp hk => ?_)
      have hO' : Below U.heap.size U W := hO
      have q1 : a.eval (.tmp 1) = .pointer (some ⟨bn, 0, none⟩) := hf 1 rfl
      exact RU.ob_op rfl (RU.wanted_none rfl) (wp_load_mid 23 (.tmp 1) rfl (bn) (0) q1 (bv y) _ (range_below RY.out hO' LN.out) Tryd.underlying23 rfl (size_l32 HY.out) ⟨rfl, hO⟩)
    · refine RU.ObT.silent rfl (fun a W k0 V hO hf hp hk => ?_)
      have hO' : Below U.heap.size U W := hO
      have e6 : a.eval (.tmp 6) = .agg (bv p).toArray := hp 1 6 rfl
      have e7 : a.eval (.tmp 7) = .agg (bv y).toArray := hp 2 7 rfl
      refine RU.ob_call (g := 39) (args := #[.agg (bv p).toArray, .agg (bv y).toArray]) rfl (RU.wanted_none rfl) (fun ev he hc => ?_) ((HCM.out W).mono ?_)
      · have h6 := (he (.tmp 6)).trans e6
        have h7 := (he (.tmp 7)).trans e7
        have hfn := he (.func 39)
        simp only [List.getElem_toArray, List.getElem_cons_succ, List.getElem_cons_zero, execOp, Option.map_some, Option.map_none]
        simp only [resolve, invoke, Sem.run_bind, Sem.run_pure, Result.andThen_ok, List.map_toArray, List.map_cons, List.map_nil, h6, h7, hfn, Act.eval, hc]
        rfl
      · rintro e' W2 ⟨rfl, hb2⟩
        exact ⟨_, rfl, rfl, (hO'.trans (hb2.mono hO'.size) : Below U.heap.size U W2)⟩
    · refine RU.ObT.silent rfl (fun a W k0 V hO hf hp hk => ?_)
      have hO' : Below U.heap.size U W := hO
      have hcell := (hO'.cell (p := ⟨be, 0, none⟩) LE.out).trans HE.out
      refine RU.ob_val rfl (RU.wanted_none rfl) (fun ev he hc => ?_) ⟨rfl, hO⟩
      have q2 : ev (.tmp 2) = .pointer (some ⟨be, 0, none⟩) := (he (.tmp 2)).trans (hf 2 rfl)
      simp only [List.getElem_toArray, List.getElem_cons_succ, List.getElem_cons_zero, execOp, Option.map_some, Option.map_none]; rw [q2]
      first | (go_simp; done) | (go_simp; rfl) | rfl
    · refine RU.ObT.pure rfl rfl rfl (fun a V hf hp ev he hc W => ?_)
      have q8 : ev (.tmp 8) = .int .i64 (c : Int) := (he (.tmp 8)).trans (hp 3 8 rfl)
      have q9 : ev (.tmp 9) = .int .i64 (e : Int) := (he (.tmp 9)).trans (hp 4 9 rfl)
      simp only [List.getElem_toArray, List.getElem_cons_succ, List.getElem_cons_zero, execOp, Option.map_some, Option.map_none]; rw [q8, q9]
      first | (go_simp; done) | (go_simp; rfl) | rfl
    · refine RU.ObT.pure rfl rfl rfl (fun a V hf hp ev he hc W => ?_)
      have q10 : ev (.tmp 10) = .bool (!decide ((c : Int) = (e : Int))) := (he (.tmp 10)).trans (hp 5 10 rfl)
      simp only [List.getElem_toArray, List.getElem_cons_succ, List.getElem_cons_zero, execOp, Option.map_some, Option.map_none]; rw [q10]
      first | (go_simp; done) | (go_simp; rfl) | rfl
  intro W1 VW1 hOW1
  have BW1 : Hid (Below U.heap.size U W1) := hOW1
  clear hOW1
  simp only [RU.lay, RU.val, RU.at', lvcf, Act.put]
  simp only [List.setIfInBounds_toArray, List.set_cons_succ, List.set_cons_zero]
  go_wp2_with fail
  go_ret
  refine ⟨?_, BU.out.trans (BW1.out.mono BU.out.size)⟩
  have : decide ((c : Int) = (e : Int)) = decide (c = e) := decide_eq_decide.2 (by omega)
  rw [this]
  rfl
/-- How many leave the way at one bit, told by the first that does not. -/
theorem lvg_ixf (y : List Int) {l : List Nd} (hne : l ≠ []) : (ixf (fun x => !decide (cmy y x = cm (hp l) y 256)) l = -1 ∧ lvg y l = l.length) ∨ (ixf (fun x => !decide (cmy y x = cm (hp l) y 256)) l = (lvg y l : Int)) := by
  obtain ⟨c, hc⟩ : ∃ c, cm (hp l) y 256 = c := ⟨_, rfl⟩
  unfold lvg
  rw [hc]
  clear hc hne
  have key : ∀ l : List Nd, (l.findIdx? (fun x => !decide (cmy y x = c)) = none ∧ (l.takeWhile (fun x => decide (cmy y x = c))).length = l.length) ∨ l.findIdx? (fun x => !decide (cmy y x = c)) = some (l.takeWhile (fun x => decide (cmy y x = c))).length := by
    intro l
    induction l with
    | nil => exact .inl ⟨rfl, rfl⟩
    | cons x r ih =>
      by_cases h : cmy y x = c
      · rw [List.findIdx?_cons, List.takeWhile_cons]
        simp only [h, decide_true, Bool.not_true, Bool.false_eq_true, if_false, if_true, List.length_cons]
        rcases ih with ⟨i1, i2⟩ | i1
        · exact .inl ⟨by rw [i1]; rfl, by rw [i2]⟩
        · exact .inr (by rw [i1]; rfl)
      · rw [List.findIdx?_cons, List.takeWhile_cons]
        simp only [h, decide_false, Bool.not_false, if_true, Bool.false_eq_true, if_false]
        exact .inr rfl
  unfold ixf
  rcases key l with ⟨h1, h2⟩ | h1
  · rw [h1]; exact .inl ⟨rfl, h2⟩
  · rw [h1]; exact .inr rfl
def lv1f (b o len cap c : Nat) (p0 y : List Int) : Nat → Value
  | 0 => .slice (some ⟨b, o, none⟩) len cap
  | 1 => .pointer (some ⟨b, o, none⟩)
  | 2 => .pointer (some ⟨b, o + 1, none⟩)
  | 3 => .agg (bv p0).toArray
  | 4 => .agg (bv y).toArray
  | 5 => .int .i64 (c : Int)
  | 6 => undef
  | 7 => undef
  | _ => undef
set_option maxHeartbeats 4000000 in
theorem leaving_any (l : List Nd) (hk : ∀ x ∈ l, x.Ok) (hne : l ≠ []) (hlen : l.length ≤ 140737488355328) (y : List Int) (hy : L32 y) (v : Value) (w : World) (hv : NS w v l) :
    Calls Tryd.prog 29 #[v, .agg (bv y).toArray] w fun e w' => e = .returned (.int .i64 (lvg y l : Int)) ∧ Below w.heap.size w w' := by
  have sy : (bv y).toArray.size = 32 := by rw [List.size_toArray, bv_length, hy.len]
  have ra := range_alloc w (bv y) 23 (0, 0)
  obtain ⟨A, hA⟩ : ∃ A, (bv y).toArray = A := ⟨_, rfl⟩
  rw [hA] at ra sy ⊢
  obtain ⟨U, hU⟩ : ∃ U, w.alloc (.cells A 23) = U := ⟨_, rfl⟩
  have sU : U.heap.size = w.heap.size + 1 := by rw [← hU]; simp
  have bU : Below w.heap.size w U := by rw [← hU]; exact (Below.refl _ w).alloc (Nat.le_refl _) _
  rw [hU] at ra
  have BU : Hid (Below w.heap.size w U) := bU
  have NU : Hid (NS U v l) := hv.below bU
  have HY : Hid (L32 y) := hy
  have HK : Hid (∀ x ∈ l, x.Ok) := hk
  obtain ⟨D, hD⟩ : ∃ D, w.heap.size = D := ⟨_, rfl⟩
  rw [hD] at ra sU
  have RY : Hid (U.rangeAt D 0 (bv y)) := ra
  have hDU : Hid (D < U.heap.size) := by show D < _; omega
  obtain ⟨x0, r, hx0⟩ : ∃ x r, l = x :: r := by cases l with | nil => exact absurd rfl hne | cons x r => exact ⟨x, r, rfl⟩
  have hg0 : l[0]? = some x0 := by rw [hx0]; rfl
  obtain ⟨p0, hp0⟩ : ∃ p, x0.p = p := ⟨_, rfl⟩
  have hpl : hp l = p0 := by rw [← hp0]; exact hp_eq hg0
  have HP0 : Hid (L32 p0) := by rw [← hp0]; exact (hk x0 (List.mem_of_getElem? hg0)).p
  obtain ⟨c, hc⟩ : ∃ c, cm p0 y 256 = c := ⟨_, rfl⟩
  have HCM : Hid (∀ W : World, Calls Tryd.prog 39 #[.agg (bv p0).toArray, .agg (bv y).toArray] W fun e w' => e = .returned (.int .i64 (c : Int)) ∧ Below W.heap.size W w') := fun W => by rw [← hc]; exact common_any p0 y W HP0.out hy
  have hix := lvg_ixf y hne
  rw [hpl, hc] at hix
  obtain ⟨J, hJ⟩ : ∃ J, ixf (fun x => !decide (cmy y x = c)) l = J := ⟨_, rfl⟩
  rw [hJ] at hix
  have HIX : Hid (J = -1 ∧ lvg y l = l.length ∨ J = (lvg y l : Int)) := hix
  have HJJ : Hid (ixf (fun x => !decide (cmy y x = c)) l = J) := hJ
  obtain ⟨ad, cap, rfl, hcp, hxx⟩ := hv
  rcases hxx with ⟨h0, _⟩ | ⟨b, o, rfl, hlb, hm⟩
  · exact absurd h0 hne
  have R0 : Hid (U.rangeAt b (o + 1) (bv p0)) := by
    have := nc_p (range_below (hm 0 x0 hg0) bU hlb); rw [hp0, Nat.zero_mul, Nat.add_zero] at this; exact this
  have hbU : Hid (b < U.heap.size) := Nat.lt_of_lt_of_le hlb bU.size
  obtain ⟨len, hln⟩ : ∃ len, l.length = len := ⟨_, rfl⟩
  have HLN : Hid (l.length = len) := hln
  have hl1 : 0 < len := by rw [← hln]; exact List.length_pos_iff.2 hne
  obtain ⟨m, hmm⟩ : ∃ m, lvg y l = m := ⟨_, rfl⟩
  rw [hmm, hln] at HIX
  rw [hln] at hlen NU ⊢
  rw [hmm]
  clear hm hlb ra bU hy hk hpl hp0 hx0 hg0 hc hix hJ hcp hln hmm sU hA hne
  go_enter Tryd.func29, Tryd.ntmps29
  go_upto_region 1 with (fail)
  try rw [hU]
  try rw [hD]
  clear hU hD
  refine RU.wp_rgn' [6, 7] (lv1f b o len cap c p0 y) (fun _ => 1) (hvΩ U (c : Int)) (by kernel_rfl) (by kernel_rfl) (show Below U.heap.size U _ from (Below.refl _ _).drew) ?_ ?_
  · refine ⟨?_, ?_, ?_, ?_, ?_, ?_, ?_, ?_, trivial⟩
    · refine RU.ObT.pure rfl rfl rfl (fun a V hf hp ev he hc W => ?_)
      have q0 : ev (.tmp 0) = .slice (some ⟨b, o, none⟩) len cap := (he (.tmp 0)).trans (hf 0 rfl)
      simp only [List.getElem_toArray, List.getElem_cons_succ, List.getElem_cons_zero, execOp, Option.map_some, Option.map_none]; rw [q0]
      first | (go_simp; done) | (go_simp; rfl) | rfl
    · refine RU.ObT.pure rfl rfl rfl (fun a V hf hp ev he hc W => ?_)
      have q7 : ev (.tmp 7) = .slice (some ⟨b, o, none⟩) len cap := (he (.tmp 7)).trans (hp 0 7 rfl)
      simp only [List.getElem_toArray, List.getElem_cons_succ, List.getElem_cons_zero, execOp, Option.map_some, Option.map_none]; rw [q7]
      try simp only [hc]
      have hl0 : (0 : Int) < (len : Int) := by omega
      have hl1 : 0 < len := by omega
      first | (go_simp; done) | (go_simp; rfl) | rfl
    · refine RU.ObT.pure rfl rfl rfl (fun a V hf hp ev he hc W => ?_)
      have q8 : ev (.tmp 8) = .pointer (some ⟨b, o, none⟩) := (he (.tmp 8)).trans (hp 1 8 rfl)
      simp only [List.getElem_toArray, List.getElem_cons_succ, List.getElem_cons_zero, execOp, Option.map_some, Option.map_none]; rw [q8]
      first | (go_simp; done) | (go_simp; rfl) | rfl
    · refine RU.ObT.silent rfl (fun a W k0 V hO hf hp hk => ?_)
      have hO' : Below U.heap.size U W := hvΩ.below hO
      have q9 : a.eval (.tmp 9) = .pointer (some ⟨b, o + 1, none⟩) := hp 2 9 rfl
      exact RU.ob_op rfl (RU.wanted_none rfl) (wp_load_mid 23 (.tmp 9) rfl (b) (o + 1) q9 (bv p0) _ (range_below R0.out hO' hbU.out) Tryd.underlying23 rfl (size_l32 HP0.out) ⟨rfl, hO⟩)
    · refine RU.ObT.silent rfl (fun a W k0 V hO hf hp hk => ?_)
      have hO' : Below U.heap.size U W := hvΩ.below hO
      have q3 : a.eval (.tmp 3) = .pointer (some ⟨D, 0, none⟩) := hf 3 rfl
      exact RU.ob_op rfl (RU.wanted_none rfl) (wp_load_mid 23 (.tmp 3) rfl (D) (0) q3 (bv y) _ (range_below RY.out hO' hDU.out) Tryd.underlying23 rfl (size_l32 HY.out) ⟨rfl, hO⟩)
    · refine RU.ObT.silent rfl (fun a W k0 V hO hf hp hk => ?_)
      have hO' : Below U.heap.size U W := hvΩ.below hO
      have e10 : a.eval (.tmp 10) = .agg (bv p0).toArray := hp 3 10 rfl
      have e11 : a.eval (.tmp 11) = .agg (bv y).toArray := hp 4 11 rfl
      refine RU.ob_call (g := 39) (args := #[.agg (bv p0).toArray, .agg (bv y).toArray]) rfl (RU.wanted_none rfl) (fun ev he hc => ?_) ((HCM.out W).mono ?_)
      · have h10 := (he (.tmp 10)).trans e10
        have h11 := (he (.tmp 11)).trans e11
        have hfn := he (.func 39)
        simp only [List.getElem_toArray, List.getElem_cons_succ, List.getElem_cons_zero, execOp, Option.map_some, Option.map_none]
        simp only [resolve, invoke, Sem.run_bind, Sem.run_pure, Result.andThen_ok, List.map_toArray, List.map_cons, List.map_nil, h10, h11, hfn, Act.eval, hc]
        rfl
      · rintro e' W2 ⟨rfl, hb2⟩
        exact ⟨_, rfl, rfl, hvΩ.more hO hb2⟩
    · refine RU.ObT.loud (j := 0) rfl (fun a W V hO hf hp => ?_)
      have hO' : Below U.heap.size U W := hO
      refine RU.ob_run (v := .pointer (some ⟨W.heap.size, 0, none⟩)) (w' := W.alloc (.cells #[.int .i64 0] 3)) rfl (RU.wanted_none rfl) (fun ev he hc => ?_) ⟨_, rfl, hO'.alloc hO'.size _, W.heap.size, rfl, hO'.size, by show (W.heap.push _)[W.heap.size]? = _; simp⟩
      simp only [List.getElem_toArray, List.getElem_cons_succ, List.getElem_cons_zero, execOp]
      go_simp
    · refine RU.ObT.loud (j := 1) rfl (fun a W V hO hf hp => ?_)
      obtain ⟨hO', bc, hV, hU, hcl⟩ := hO
      have q4 : a.eval (.tmp 5) = .pointer (some ⟨bc, 0, none⟩) := (hp 6 5 rfl).trans hV
      have q17 : a.eval (.tmp 12) = .int .i64 (c : Int) := hp 5 12 rfl
      have hcell : W.cell? ⟨bc, 0, none⟩ = some (.int .i64 0) := by unfold World.cell?; rw [hcl]; rfl
      have hfr : W.frozen? ⟨bc, 0, none⟩ = false := by unfold World.frozen?; rw [hcl]; simp
      refine RU.ob_skip (w' := W.setCell ⟨bc, 0, none⟩ (.int .i64 (c : Int))) rfl (RU.wanted_none rfl) (fun ev he hc => ?_) ⟨_, rfl, hO'.trans ⟨rfl, rfl, rfl, by simp [World.setCell], fun k hk => Below.heap_setCell _ _ _ k (by show k ≠ bc; omega)⟩, bc, hV, hU, ?_⟩
      · have e1 := (he (.tmp 5)).trans q4
        have e2 := (he (.tmp 12)).trans q17
        simp only [List.getElem_toArray, List.getElem_cons_succ, List.getElem_cons_zero, execOp]
        rw [e1, e2]
        go_simp
      · rw [heap_setCell_same _ _ _ _ _ _ hcl]; rfl
  intro W1 VW1 hOW1
  obtain ⟨b1, bc, hbc1, hbc2, hbc3⟩ := hOW1
  have B1 : Hid (Below U.heap.size U W1) := b1
  have CC : Hid (W1.cell? ⟨bc, 0, none⟩ = some (.int .i64 (c : Int))) := by show W1.cell? _ = _; unfold World.cell?; rw [hbc3]; rfl
  have LBC : Hid (bc < W1.heap.size) := (Array.getElem?_eq_some_iff.1 hbc3).1
  clear b1 hbc2 hbc3
  simp only [RU.lay, RU.val, RU.at', lv1f, Act.put, hbc1]
  simp only [List.setIfInBounds_toArray, List.set_cons_succ, List.set_cons_zero]
  have HXF : Hid (Calls Tryd.prog 22 #[.slice (some ⟨b, o, none⟩) len cap, .func (.func 46) #[] #[.pointer (some ⟨D, 0, none⟩), .pointer (some ⟨bc, 0, none⟩)]] W1 fun e w' => e = .returned (.int .i64 J) ∧ Below W1.heap.size W1 w') := by
    rw [← HJJ.out]
    exact index_leaving l HK.out (by rw [HLN.out]; exact hlen) _ _ _ _ W1 (NU.out.below B1.out) (fun x hx W q => lvclosure_any x (HK.out x hx) y HY.out D bc c W (by have h1 := hDU.out; have h2 := B1.out.size; have h3 := q.size; omega) (range_below RY.out (Below.tr' B1.out q) hDU.out) ((q.cell (p := ⟨bc, 0, none⟩) LBC.out).trans CC.out))
  rcases HIX.out with ⟨rfl, hml⟩ | rfl
  · go_wp2_with (go_at_call 22; refine HXF.out.mono ?_; rintro e' w2 ⟨rfl, h5⟩; have B2 : Hid (Below W1.heap.size W1 w2) := h5; clear h5)
    go_ret
    exact ⟨by rw [hml]; rfl, BU.out.trans ((Below.tr' B1.out B2.out).mono BU.out.size)⟩
  · go_wp2_with (go_at_call 22; refine HXF.out.mono ?_; rintro e' w2 ⟨rfl, h5⟩; have B2 : Hid (Below W1.heap.size W1 w2) := h5; clear h5)
    go_ret
    exact ⟨rfl, BU.out.trans ((Below.tr' B1.out B2.out).mono BU.out.size)⟩
end Go.Proofs.YtkeobajlikhghabDoor
