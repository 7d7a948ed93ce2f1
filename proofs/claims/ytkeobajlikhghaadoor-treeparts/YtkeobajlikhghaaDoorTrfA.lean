/- Package tree: slices.IndexFunc over nodes, and its closures. -/
import Derived.Test.YtkeobajlikhghaaDoorTrcC
import Derived.Test.YtkeobajlikhghaaDoorTrlV
import Derived.Test.YtkeobajlikhghaaDoorTrcV
namespace Go.Proofs.YtkeobajlikhghaaDoor
open Go Go.RowKit
set_option linter.unusedSimpArgs false
set_option linter.unusedVariables false
set_option maxRecDepth 100000

/-- The first place where a test holds, or -1. -/
def ixf (f : Nd → Bool) (l : List Nd) : Int := match l.findIdx? f with | some i => (i : Int) | none => -1
theorem ixf_at {f : Nd → Bool} {l : List Nd} {k : Nat} {x : Nd} (hx : l[k]? = some x) (h : f x = true) (hlo : ∀ (j : Nat) (y : Nd), j < k → l[j]? = some y → f y = false) : ixf f l = (k : Int) := by
  obtain ⟨hk, rfl⟩ := List.getElem?_eq_some_iff.1 hx
  have : l.findIdx? f = some k := List.findIdx?_eq_some_iff_getElem.2 ⟨hk, h, fun j hj => by rw [hlo j _ hj (List.getElem?_eq_getElem (by omega))]; decide⟩
  unfold ixf; rw [this]
theorem ixf_none {f : Nd → Bool} {l : List Nd} (h : ∀ x ∈ l, f x = false) : ixf f l = -1 := by
  have : l.findIdx? f = none := List.findIdx?_eq_none_iff.2 h
  unfold ixf; rw [this]
/-- An operation of two whose run is known. -/
theorem wp_bin_run {P : Program} {ops : Array Oper} {rest : List Oper} {o : Oper} {a : Act} {w : World} {Q : Exit → Act → World → Prop} (op : BinOp) (t t' : TypeId) (x y : Operand) (ho : o.op = .binOp op t x y t') (hw : Region.wanted o (yielded ops a.tmps) = true) (v u r : Value) (hx : a.eval x = v) (hy : a.eval y = u)
    (hg : (eqGuard op t x y v u).run P w = .ok () w) (hr : (binOp op t v u).run P w = .ok r w) (h : wpList P ops Q rest (a.put o.dst r) w) : wpList P ops Q (o :: rest) a w := by
  unfold wpList
  rw [if_pos hw]
  refine .inl ?_
  unfold Oper.wp execOp
  simp only [ho, hx, hy, Sem.run_bind, hg, hr, Result.andThen_ok, Sem.run_pure]
  exact h
set_option maxHeartbeats 4000000 in
theorem index_found (l : List Nd) (hk : ∀ x ∈ l, x.Ok) (hlen : l.length ≤ 140737488355328) (f : Nd → Bool) (p1 v : Value) (w : World) (hv : NS w v l)
    (hf : ∀ x ∈ l, ∀ W : World, Below w.heap.size w W → Calls Tryd.prog 50 #[.agg (nc x).toArray, p1] W fun e w' => e = .returned (.bool (f x)) ∧ Below W.heap.size W w') :
    Calls Tryd.prog 49 #[v, .func (.func 50) #[] #[p1]] w fun e w' => e = .returned (.int .i64 (ixf f l)) ∧ Below w.heap.size w w' := by
  have HF : Hid (∀ x ∈ l, ∀ W : World, Below w.heap.size w W → Calls Tryd.prog 50 #[.agg (nc x).toArray, p1] W fun e w' => e = .returned (.bool (f x)) ∧ Below W.heap.size W w') := hf
  obtain ⟨ad, cap, rfl, hc, hx⟩ := hv
  have HXX : Hid (l = [] ∧ (ad = none → cap = 0) ∨ ∃ b o, ad = some ⟨b, o, none⟩ ∧ b < w.heap.size ∧ ∀ (i : Nat) (x : Nd), l[i]? = some x → w.rangeAt b (o + i * 65) (nc x)) := hx
  have HK : Hid (∀ x ∈ l, x.Ok) := hk
  obtain ⟨len, hln⟩ : ∃ len, l.length = len := ⟨_, rfl⟩
  have HLN : Hid (l.length = len) := hln
  obtain ⟨R, hR⟩ : ∃ R, ixf f l = R := ⟨_, rfl⟩
  have HR : Hid (ixf f l = R) := hR
  rw [hR]
  rw [hln] at hlen ⊢
  clear hx hk hc hln hf hR
  go_enter Tryd.func49, Tryd.ntmps49
  go_wp2_with fail
  go_loopw [8] (fun i wr => ∃ k : Nat, k ≤ len ∧ i = .int .i64 (k : Int) ∧ (∀ (j : Nat) (x : Nd), j < k → l[j]? = some x → f x = false) ∧ Below w.heap.size w wr) (fun i _ => len - (intOf i).toNat)
  case atStart => exact ⟨0, Nat.zero_le _, rfl, fun j x hj => by omega, Below.refl _ _⟩
  case round =>
    obtain ⟨k, hkl, rfl, hall, h4⟩ := hrel
    have H4 : Hid (Below w.heap.size w wr) := h4
    have HA : Hid (∀ (j : Nat) (x : Nd), j < k → l[j]? = some x → f x = false) := hall
    clear h4 hall
    by_cases hlt : k < len
    · rcases HXX.out with ⟨h0, _⟩ | ⟨b, o, rfl, hlb, hm⟩
      · have := HLN.out; rw [h0] at this; simp at this; omega
      · obtain ⟨x, hx⟩ : ∃ x, l[k]? = some x := ⟨l[k]'(by have := HLN.out; omega), List.getElem?_eq_getElem _⟩
        have HX : Hid x.Ok := HK.out x (List.mem_of_getElem? hx)
        have HXK : Hid (l[k]? = some x) := hx
        have HRX : Hid (wr.rangeAt b (o + k * 65) (nc x)) := range_below (hm k x hx) (H4.out.mono (Nat.le_refl _)) hlb
        cases hb : f x with
        | false =>
          have HCL : Hid (Calls Tryd.prog 50 #[.agg (nc x).toArray, p1] wr fun e w' => e = .returned (.bool false) ∧ Below wr.heap.size wr w') := by have := HF.out x (List.mem_of_getElem? hx) wr H4.out; rw [hb] at this; exact this
          have HB : Hid (f x = false) := hb
          obtain ⟨X, hX⟩ : ∃ X, (nc x).toArray = X := ⟨_, rfl⟩
          rw [hX] at HCL
          clear hm hlb hx hb
          go_wp2_with (first
            | (refine load_g rfl 27 (.tmp 14) rfl b (o + k * 65) rfl (nc x) _ HRX.out Tryd.underlying27 rfl (size_nc HX.out) ?_; rw [hX])
            | (go_at_call 50; refine HCL.out.mono ?_; rintro e w2 ⟨rfl, h5⟩; have H5 : Hid (Below wr.heap.size wr w2) := h5; clear h5))
          exact ⟨⟨k + 1, by omega, by go_num, fun j z hj hz => by
            rcases Nat.lt_succ_iff_lt_or_eq.1 hj with q | rfl
            · exact HA.out j z q hz
            · rw [HXK.out] at hz; cases hz; exact HB.out, H4.out.trans (H5.out.mono H4.out.size)⟩, by simp [intOf]; omega⟩
        | true =>
          have HCL : Hid (Calls Tryd.prog 50 #[.agg (nc x).toArray, p1] wr fun e w' => e = .returned (.bool true) ∧ Below wr.heap.size wr w') := by have := HF.out x (List.mem_of_getElem? hx) wr H4.out; rw [hb] at this; exact this
          have HRR : Hid (R = (k : Int)) := by show R = _; rw [← HR.out]; exact ixf_at hx hb HA.out
          obtain ⟨X, hX⟩ : ∃ X, (nc x).toArray = X := ⟨_, rfl⟩
          rw [hX] at HCL
          clear hm hlb hx hb
          go_wp2_with (first
            | (refine load_g rfl 27 (.tmp 14) rfl b (o + k * 65) rfl (nc x) _ HRX.out Tryd.underlying27 rfl (size_nc HX.out) ?_; rw [hX])
            | (go_at_call 50; refine HCL.out.mono ?_; rintro e w2 ⟨rfl, h5⟩; have H5 : Hid (Below wr.heap.size wr w2) := h5; clear h5))
          go_ret
          exact ⟨by rw [HRR.out]; rfl, H4.out.trans (H5.out.mono H4.out.size)⟩
    · have HRR : Hid (R = -1) := by
        show R = -1
        rw [← HR.out]
        refine ixf_none (fun x hx => ?_)
        obtain ⟨i, hi, rfl⟩ := List.getElem_of_mem hx
        exact HA.out i _ (by have := HLN.out; omega) (List.getElem?_eq_getElem hi)
      go_wp2_with fail
      go_ret
      exact ⟨by rw [HRR.out]; rfl, H4.out⟩
set_option maxHeartbeats 4000000 in
theorem index_leaving (l : List Nd) (hk : ∀ x ∈ l, x.Ok) (hlen : l.length ≤ 140737488355328) (f : Nd → Bool) (p1 p2 v : Value) (w : World) (hv : NS w v l)
    (hf : ∀ x ∈ l, ∀ W : World, Below w.heap.size w W → Calls Tryd.prog 79 #[.agg (nc x).toArray, p1, p2] W fun e w' => e = .returned (.bool (f x)) ∧ Below W.heap.size W w') :
    Calls Tryd.prog 49 #[v, .func (.func 79) #[] #[p1, p2]] w fun e w' => e = .returned (.int .i64 (ixf f l)) ∧ Below w.heap.size w w' := by
  have HF : Hid (∀ x ∈ l, ∀ W : World, Below w.heap.size w W → Calls Tryd.prog 79 #[.agg (nc x).toArray, p1, p2] W fun e w' => e = .returned (.bool (f x)) ∧ Below W.heap.size W w') := hf
  obtain ⟨ad, cap, rfl, hc, hx⟩ := hv
  have HXX : Hid (l = [] ∧ (ad = none → cap = 0) ∨ ∃ b o, ad = some ⟨b, o, none⟩ ∧ b < w.heap.size ∧ ∀ (i : Nat) (x : Nd), l[i]? = some x → w.rangeAt b (o + i * 65) (nc x)) := hx
  have HK : Hid (∀ x ∈ l, x.Ok) := hk
  obtain ⟨len, hln⟩ : ∃ len, l.length = len := ⟨_, rfl⟩
  have HLN : Hid (l.length = len) := hln
  obtain ⟨R, hR⟩ : ∃ R, ixf f l = R := ⟨_, rfl⟩
  have HR : Hid (ixf f l = R) := hR
  rw [hR]
  rw [hln] at hlen ⊢
  clear hx hk hc hln hf hR
  go_enter Tryd.func49, Tryd.ntmps49
  go_wp2_with fail
  go_loopw [8] (fun i wr => ∃ k : Nat, k ≤ len ∧ i = .int .i64 (k : Int) ∧ (∀ (j : Nat) (x : Nd), j < k → l[j]? = some x → f x = false) ∧ Below w.heap.size w wr) (fun i _ => len - (intOf i).toNat)
  case atStart => exact ⟨0, Nat.zero_le _, rfl, fun j x hj => by omega, Below.refl _ _⟩
  case round =>
    obtain ⟨k, hkl, rfl, hall, h4⟩ := hrel
    have H4 : Hid (Below w.heap.size w wr) := h4
    have HA : Hid (∀ (j : Nat) (x : Nd), j < k → l[j]? = some x → f x = false) := hall
    clear h4 hall
    by_cases hlt : k < len
    · rcases HXX.out with ⟨h0, _⟩ | ⟨b, o, rfl, hlb, hm⟩
      · have := HLN.out; rw [h0] at this; simp at this; omega
      · obtain ⟨x, hx⟩ : ∃ x, l[k]? = some x := ⟨l[k]'(by have := HLN.out; omega), List.getElem?_eq_getElem _⟩
        have HX : Hid x.Ok := HK.out x (List.mem_of_getElem? hx)
        have HXK : Hid (l[k]? = some x) := hx
        have HRX : Hid (wr.rangeAt b (o + k * 65) (nc x)) := range_below (hm k x hx) (H4.out.mono (Nat.le_refl _)) hlb
        cases hb : f x with
        | false =>
          have HCL : Hid (Calls Tryd.prog 79 #[.agg (nc x).toArray, p1, p2] wr fun e w' => e = .returned (.bool false) ∧ Below wr.heap.size wr w') := by have := HF.out x (List.mem_of_getElem? hx) wr H4.out; rw [hb] at this; exact this
          have HB : Hid (f x = false) := hb
          obtain ⟨X, hX⟩ : ∃ X, (nc x).toArray = X := ⟨_, rfl⟩
          rw [hX] at HCL
          clear hm hlb hx hb
          go_wp2_with (first
            | (refine load_g rfl 27 (.tmp 14) rfl b (o + k * 65) rfl (nc x) _ HRX.out Tryd.underlying27 rfl (size_nc HX.out) ?_; rw [hX])
            | (go_at_call 79; refine HCL.out.mono ?_; rintro e w2 ⟨rfl, h5⟩; have H5 : Hid (Below wr.heap.size wr w2) := h5; clear h5))
          exact ⟨⟨k + 1, by omega, by go_num, fun j z hj hz => by
            rcases Nat.lt_succ_iff_lt_or_eq.1 hj with q | rfl
            · exact HA.out j z q hz
            · rw [HXK.out] at hz; cases hz; exact HB.out, H4.out.trans (H5.out.mono H4.out.size)⟩, by simp [intOf]; omega⟩
        | true =>
          have HCL : Hid (Calls Tryd.prog 79 #[.agg (nc x).toArray, p1, p2] wr fun e w' => e = .returned (.bool true) ∧ Below wr.heap.size wr w') := by have := HF.out x (List.mem_of_getElem? hx) wr H4.out; rw [hb] at this; exact this
          have HRR : Hid (R = (k : Int)) := by show R = _; rw [← HR.out]; exact ixf_at hx hb HA.out
          obtain ⟨X, hX⟩ : ∃ X, (nc x).toArray = X := ⟨_, rfl⟩
          rw [hX] at HCL
          clear hm hlb hx hb
          go_wp2_with (first
            | (refine load_g rfl 27 (.tmp 14) rfl b (o + k * 65) rfl (nc x) _ HRX.out Tryd.underlying27 rfl (size_nc HX.out) ?_; rw [hX])
            | (go_at_call 79; refine HCL.out.mono ?_; rintro e w2 ⟨rfl, h5⟩; have H5 : Hid (Below wr.heap.size wr w2) := h5; clear h5))
          go_ret
          exact ⟨by rw [HRR.out]; rfl, H4.out.trans (H5.out.mono H4.out.size)⟩
    · have HRR : Hid (R = -1) := by
        show R = -1
        rw [← HR.out]
        refine ixf_none (fun x hx => ?_)
        obtain ⟨i, hi, rfl⟩ := List.getElem_of_mem hx
        exact HA.out i _ (by have := HLN.out; omega) (List.getElem?_eq_getElem hi)
      go_wp2_with fail
      go_ret
      exact ⟨by rw [HRR.out]; rfl, H4.out⟩
set_option maxHeartbeats 2000000 in
theorem fclosure_any (x : Nd) (hx : x.Ok) (y : List Int) (hy : L32 y) (bn : Nat) (w : World) (hb : bn < w.heap.size) (hr : w.rangeAt bn 0 (bv y)) :
    Calls Tryd.prog 50 #[.agg (nc x).toArray, .pointer (some ⟨bn, 0, none⟩)] w fun e w' => e = .returned (.bool (hl x y)) ∧ Below w.heap.size w w' := by
  have ra := range_alloc w (nc x) 27 (0, 0)
  have s1 := nc_size hx
  have HHO : Hid (∀ W : World, Calls Tryd.prog 12 #[.agg (nc x).toArray, .agg (bv y).toArray] W fun e w' => e = .returned (.bool (hl x y)) ∧ Below W.heap.size W w') := fun W => holds_any x hx y hy W
  obtain ⟨g, hg⟩ : ∃ g, hl x y = g := ⟨_, rfl⟩
  rw [hg] at HHO ⊢
  obtain ⟨A, hA⟩ : ∃ A, (nc x).toArray = A := ⟨_, rfl⟩
  have HA : Hid ((nc x).toArray = A) := hA
  rw [hA] at ra s1 ⊢
  obtain ⟨U, hU⟩ : ∃ U, w.alloc (.cells A 27) = U := ⟨_, rfl⟩
  have bU : Below w.heap.size w U := by rw [← hU]; exact (Below.refl _ w).alloc (Nat.le_refl _) _
  rw [hU] at ra
  have BU : Hid (Below w.heap.size w U) := bU
  have RY : Hid (U.rangeAt bn 0 (bv y)) := range_below hr bU hb
  have HX : Hid x.Ok := hx
  have HY : Hid (L32 y) := hy
  obtain ⟨D, hD⟩ : ∃ D, w.heap.size = D := ⟨_, rfl⟩
  rw [hD] at ra
  have RX : Hid (U.rangeAt D 0 (nc x)) := ra
  clear ra bU hr hx hy hg
  go_enter Tryd.func50, Tryd.ntmps50
  go_upto_region 1 with (fail)
  try rw [hU]
  try rw [hD]
  clear hU hD hA
  go_wp2_with (first
    | (refine ld 27 (.tmp 2) rfl rfl D 0 rfl (nc x) _ RX.out Tryd.underlying27 rfl (size_nc HX.out) ?_)
    | (refine ld 23 (.tmp 1) rfl rfl bn 0 rfl (bv y) _ RY.out Tryd.underlying23 rfl (size_l32 HY.out) ?_)
    | (go_at_call 12; refine (HHO.out U).mono ?_; rintro e w2 ⟨rfl, h5⟩; have H5 : Hid (Below U.heap.size U w2) := h5; clear h5))
  go_ret
  exact ⟨rfl, BU.out.trans (H5.out.mono BU.out.size)⟩
end Go.Proofs.YtkeobajlikhghaaDoor
/- Plain mathematics: leaves' nodes in order. -/
namespace Go.Proofs.YtkeobajlikhghaaDoor
open Go Go.RowKit
set_option linter.unusedSimpArgs false
set_option linter.unusedVariables false
set_option maxRecDepth 100000

/-- Leaves' nodes of which no two have one label, in order. -/
def okl (ls : List Lf) : Prop := ∃ s : List Nd, s.Perm (ls.map ln) ∧ apt s = true
open Classical in
noncomputable def so (ls : List Lf) : List Nd := if h : okl ls then Classical.choose h else []
theorem so_spec {ls : List Lf} (h : okl ls) : (so ls).Perm (ls.map ln) ∧ apt (so ls) = true := by
  unfold so; rw [dif_pos h]; exact Classical.choose_spec h
theorem map_ok {ls : List Lf} (hk : ∀ x ∈ ls, x.Ok) {s : List Nd} (h : s.Perm (ls.map ln)) : ∀ x ∈ s, x.Ok ∧ gd x = true ∧ x.n = 256 := fun x hx => by
  obtain ⟨y, hy, rfl⟩ := List.mem_map.1 (h.mem_iff.1 hx)
  exact ⟨ln_ok (hk y hy), ln_gd (hk y hy), rfl⟩
theorem leaf_apt : ∀ (s : List Nd), (∀ x ∈ s, x.Ok ∧ gd x = true ∧ x.n = 256) → s.Pairwise (fun a b => pf a.p 256 < pf b.p 256) → apt s = true
  | [], _, _ => rfl
  | [a], h, _ => (h a (by simp)).2.1
  | a :: b :: r, h, hp => by
    have hab := (List.pairwise_cons.1 hp).1 b (by simp)
    obtain ⟨ka, ga, na⟩ := h a (by simp)
    obtain ⟨kb, gb, nb⟩ := h b (by simp)
    have ih := leaf_apt (b :: r) (fun x hx => h x (List.mem_cons_of_mem _ hx)) (List.pairwise_cons.1 hp).2
    simp only [apt, ap2, Bool.and_eq_true]
    refine ⟨ga, ⟨(ltb_iff ka.p kb.p).2 hab, ?_⟩, ih⟩
    unfold hl
    rw [ga, Bool.true_and, na]
    have : ¬ (256 : Int).toNat ≤ cm a.p b.p 256 := fun q => by
      have := ((cm_ge (a := a.p) (b := b.p) (m := 256) (r := 256) (Nat.le_refl _)).1 q).pf
      omega
    rw [decide_eq_false this]; rfl
theorem rise_uniq {s t : List Nd} (h : s.Perm t) (hs : s.Pairwise (fun a b => pf a.p 256 < pf b.p 256)) (ht : t.Pairwise (fun a b => pf a.p 256 < pf b.p 256)) : s = t := by
  induction s generalizing t with
  | nil => exact (List.nil_perm.1 h).symm
  | cons a s ih =>
    cases t with
    | nil => exact absurd h.length_eq (by simp)
    | cons b t =>
      have h1 := (List.pairwise_cons.1 hs)
      have h2 := (List.pairwise_cons.1 ht)
      have e : a = b := by
        rcases List.mem_cons.1 (h.mem_iff.1 (List.mem_cons_self (a := a) (l := s))) with q | q
        · exact q
        · rcases List.mem_cons.1 (h.mem_iff.2 (List.mem_cons_self (a := b) (l := t))) with r | r
          · exact r.symm
          · have := h2.1 a q; have := h1.1 b r; omega
      subst e
      rw [ih ((List.perm_cons a).1 h) h1.2 h2.2]
theorem so_uniq {ls : List Lf} (hk : ∀ x ∈ ls, x.Ok) {s : List Nd} (h : s.Perm (ls.map ln)) (ha : apt s = true) : okl ls ∧ so ls = s := by
  have ho : okl ls := ⟨s, h, ha⟩
  obtain ⟨h1, h2⟩ := so_spec ho
  exact ⟨ho, rise_uniq (h1.trans h.symm) (apt_ris (fun x hx => (map_ok hk h1 x hx).1) h2).up (apt_ris (fun x hx => (map_ok hk h x hx).1) ha).up⟩
theorem so_rise {ls : List Lf} (hk : ∀ x ∈ ls, x.Ok) {s : List Nd} (h : s.Perm (ls.map ln)) (hs : s.Pairwise (fun a b => pf a.p 256 < pf b.p 256)) : okl ls ∧ so ls = s :=
  so_uniq hk h (leaf_apt s (map_ok hk h) hs)
theorem okl_ne {ls : List Lf} (hk : ∀ x ∈ ls, x.Ok) (h : okl ls) : ls.Pairwise (fun a b => pf a.p 256 ≠ pf b.p 256) := by
  obtain ⟨s, h1, h2⟩ := h
  have hr := (apt_ris (fun x hx => (map_ok hk h1 x hx).1) h2).up
  have hn : (s.map fun x => pf x.p 256).Nodup := List.pairwise_map.2 (hr.imp (fun q => by omega))
  have hn2 : ((ls.map ln).map fun x => pf x.p 256).Nodup := (h1.map _).nodup_iff.1 hn
  rw [List.map_map] at hn2
  exact List.pairwise_map.1 hn2
/-- Sorted, and apart just if no two have one label. -/
theorem sorted_apt {ls : List Lf} (hk : ∀ x ∈ ls, x.Ok) {s : List Nd} (h : s.Perm (ls.map ln)) (hs : s.Pairwise (fun a b => pf a.p 256 ≤ pf b.p 256)) (ho : okl ls) : apt s = true ∧ so ls = s := by
  have hn := okl_ne hk ho
  have hn2 : ((ls.map ln).map fun x => pf x.p 256).Nodup := by rw [List.map_map]; exact List.pairwise_map.2 hn
  have hn3 : (s.map fun x => pf x.p 256).Nodup := (h.map _).nodup_iff.2 hn2
  have hp := hs.and (List.pairwise_map.1 hn3)
  have hlt : s.Pairwise (fun a b => pf a.p 256 < pf b.p 256) := hp.imp (fun q => by have h1 := q.1; have h2 := q.2; omega)
  have ha := leaf_apt s (map_ok hk h) hlt
  exact ⟨ha, (so_uniq hk h ha).2⟩
theorem so_len {ls : List Lf} (h : okl ls) : (so ls).length = ls.length := by rw [(so_spec h).1.length_eq, List.length_map]
theorem so_ok {ls : List Lf} (hk : ∀ x ∈ ls, x.Ok) (h : okl ls) : ∀ x ∈ so ls, x.Ok := fun x hx => (map_ok hk (so_spec h).1 x hx).1
theorem so_rsn {ls : List Lf} (hk : ∀ x ∈ ls, x.Ok) (h : okl ls) : Rsn (so ls) := apt_rsn (so_ok hk h) (so_spec h).2
/-- A nought or more: how one row of bytes stands to another. -/
theorem cmp_swo {a b : List Int} (ha : L32 a) (hb : L32 b) : cmpI a b < 0 ↔ pf a 256 < pf b 256 := by
  rw [← ltb_iff ha hb]
  have := cmp_ltb a b (by rw [ha.len, hb.len]) ha.byt hb.byt
  cases h : ltb a b with
  | false => rw [h] at this; have := this.2 rfl; simp; omega
  | true => rw [h] at this; simp at this ⊢; omega
end Go.Proofs.YtkeobajlikhghaaDoor
