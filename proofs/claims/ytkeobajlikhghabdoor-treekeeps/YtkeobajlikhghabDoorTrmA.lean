/- Plain mathematics: openings of a tree at a label. -/
import Derived.Test.YtkeobajlikhghabDoorTrjB
import Derived.Test.YtkeobajlikhghabDoorTrcC
namespace Go.Proofs.YtkeobajlikhghabDoor
open Go Go.RowKit
set_option linter.unusedSimpArgs false
set_option linter.unusedVariables false
set_option maxRecDepth 100000

/-- How many first bits a node's Prefix has in common with a label. -/
def cmy (y : List Int) (x : Nd) : Nat := cm x.p y 256
/-- How many of the first leave the way at one bit. -/
def lvg (y : List Int) (l : List Nd) : Nat := (l.takeWhile (fun x => decide (cmy y x = cm (hp l) y 256))).length
def opn (y : List Int) : Nat → List Nd → List Nd
  | 0, _ => []
  | _ + 1, [] => []
  | f + 1, x :: r => ovl ((x :: r).take (lvg y (x :: r))) :: opn y f ((x :: r).drop (lvg y (x :: r)))
/-- The opening of nodes that rise at a label. -/
def opl (y : List Int) (l : List Nd) : List Nd := opn y l.length l
theorem lvg_pos (y : List Int) (x : Nd) (r : List Nd) : 1 ≤ lvg y (x :: r) := by
  unfold lvg
  rw [List.takeWhile_cons, if_pos (by simp [hp, cmy]), List.length_cons]
  omega
theorem lvg_le (y : List Int) (l : List Nd) : lvg y l ≤ l.length := (List.takeWhile_sublist _).length_le
theorem opn_nil (y : List Int) : ∀ f, opn y f [] = []
  | 0 => rfl
  | _ + 1 => rfl
theorem opn_fuel (y : List Int) : ∀ (f g : Nat) (l : List Nd), l.length ≤ f → l.length ≤ g → opn y f l = opn y g l
  | 0, g, l, hf, _ => by rw [List.length_eq_zero_iff.1 (Nat.le_zero.1 hf), opn_nil, opn_nil]
  | f + 1, 0, l, _, hg => by rw [List.length_eq_zero_iff.1 (Nat.le_zero.1 hg), opn_nil, opn_nil]
  | f + 1, g + 1, [], _, _ => rfl
  | f + 1, g + 1, x :: r, hf, hg => by
    have h1 := lvg_pos y x r
    have h2 : ((x :: r).drop (lvg y (x :: r))).length = r.length + 1 - lvg y (x :: r) := by rw [List.length_drop]; rfl
    simp only [List.length_cons] at hf hg
    simp only [opn]
    rw [opn_fuel y f g _ (by omega) (by omega)]
theorem opl_nil (y : List Int) : opl y [] = [] := rfl
theorem opl_cons (y : List Int) {l : List Nd} (h : l ≠ []) : opl y l = ovl (l.take (lvg y l)) :: opl y (l.drop (lvg y l)) := by
  cases l with
  | nil => exact absurd rfl h
  | cons x r =>
    have h1 := lvg_pos y x r
    have h2 : ((x :: r).drop (lvg y (x :: r))).length = r.length + 1 - lvg y (x :: r) := by rw [List.length_drop]; rfl
    show opn y (r.length + 1) (x :: r) = _
    simp only [opn, opl]
    rw [opn_fuel y r.length _ _ (by omega) (Nat.le_refl _)]
theorem tw_app {p : Nd → Bool} {b : List Nd} (hb : ∀ z ∈ b, p z = false) : ∀ a : List Nd, ((a ++ b).takeWhile p).length = (a.takeWhile p).length
  | [] => by
    cases b with
    | nil => rfl
    | cons z s => rw [List.nil_append, List.takeWhile_cons, if_neg (by rw [hb z List.mem_cons_self]; decide)]; rfl
  | x :: r => by
    rw [List.cons_append, List.takeWhile_cons, List.takeWhile_cons]
    cases p x with
    | false => rfl
    | true => simp only [if_true, List.length_cons]; rw [tw_app hb r]
theorem tw_all {p : Nd → Bool} : ∀ {a : List Nd}, (∀ z ∈ a, p z = true) → (a.takeWhile p).length = a.length
  | [], _ => rfl
  | x :: r, h => by
    rw [List.takeWhile_cons, if_pos (h x List.mem_cons_self), List.length_cons, tw_all (fun z hz => h z (List.mem_cons_of_mem _ hz)), List.length_cons]
theorem opl_app (y : List Int) : ∀ (n : Nat) (a b : List Nd), a.length ≤ n → (∀ x ∈ a, ∀ z ∈ b, cmy y x ≠ cmy y z) → opl y (a ++ b) = opl y a ++ opl y b
  | _, [], b, _, _ => by rw [List.nil_append, opl_nil, List.nil_append]
  | 0, x :: r, b, h, _ => absurd h (by simp)
  | n + 1, x :: r, b, hn, h => by
    have e : lvg y ((x :: r) ++ b) = lvg y (x :: r) := by
      unfold lvg
      rw [show hp ((x :: r) ++ b) = hp (x :: r) from rfl]
      exact tw_app (fun z hz => by rw [decide_eq_false_iff_not]; intro g; exact h x List.mem_cons_self z hz g.symm) _
    have k1 := lvg_pos y x r
    have k2 := lvg_le y (x :: r)
    rw [opl_cons y (l := (x :: r) ++ b) (by simp), opl_cons y (l := x :: r) (by simp), e, List.take_append_of_le_length k2, List.drop_append_of_le_length k2, List.cons_append,
      opl_app y n _ b (by rw [List.length_drop]; simp only [List.length_cons] at hn k2 ⊢; omega) (fun q hq z hz => h q (List.mem_of_mem_drop hq) z hz)]
theorem opl_same (y : List Int) {l : List Nd} {c : Nat} (hne : l ≠ []) (h : ∀ x ∈ l, cmy y x = c) : opl y l = [ovl l] := by
  have e : lvg y l = l.length := by
    unfold lvg
    refine tw_all (fun z hz => ?_)
    rw [decide_eq_true_iff, h z hz]
    cases l with
    | nil => exact absurd rfl hne
    | cons x r => exact (h x List.mem_cons_self).symm
  rw [opl_cons y hne, e, List.take_length, List.drop_length, opl_nil]
/-- What a reading from above leaves: all that no wanted node holds. -/
def wo (hd : Nd → Bool) (own : Bool) : Nat → List Nd → List Nd
  | 0, _ => []
  | _ + 1, [] => []
  | f + 1, x :: r => if hd (ovl (x :: r)) = false ∨ (r = [] ∧ own = true) then [ovl (x :: r)] else if r = [] then [] else wo hd own f ((x :: r).take (cut (cl (x :: r)) (x :: r))) ++ wo hd own f ((x :: r).drop (cut (cl (x :: r)) (x :: r)))
theorem wo_nil (hd : Nd → Bool) (own : Bool) : ∀ f, wo hd own f [] = []
  | 0 => rfl
  | _ + 1 => rfl
theorem fb_fb {x : List Int} (h : L32 x) (n : Nat) : fb (fb x n) n = fb x n :=
  l32_of_bits (fb_l32 (fb_l32 h n) n) (fb_l32 h n) (fun i hi => by rw [bt_fb (fb_l32 h n) n i hi, bt_fb h n i hi]; split <;> rfl)
theorem ovl_two {l : List Nd} (h : Ris l) (h2 : 2 ≤ l.length) : (ovl l).n = (cl l : Nat) ∧ (ovl l).p = fb (hp l) (cl l) := by
  obtain ⟨f, hf⟩ : ∃ f, l.length = f + 1 := ⟨l.length - 1, by omega⟩
  unfold ovl
  rw [hf]
  simp only [ov]
  rw [if_neg (by omega)]
  exact ⟨rfl, rfl⟩
theorem hp_l32 {l : List Nd} (h : Ris l) (hne : l ≠ []) : L32 (hp l) := by
  cases l with
  | nil => exact absurd rfl hne
  | cons x r => exact (h.ok x List.mem_cons_self).p
/-- The node over two or more holds a label that begins as they all do. -/
theorem hl_ovl {l : List Nd} (h : Ris l) (h2 : 2 ≤ l.length) (y : List Int) : hl (ovl l) y = true ↔ Shr (hp l) y (cl l) := by
  obtain ⟨e1, e2⟩ := ovl_two h h2
  have hc := h.cl_lt h2
  have hp32 := hp_l32 h (fun e => by rw [e] at h2; simp at h2)
  have g : gd (ovl l) = true := gd_iff.2 ⟨by rw [e1]; omega, by rw [e1]; omega, by rw [e1, e2, Int.toNat_natCast]; exact fb_fb hp32 _⟩
  unfold hl
  rw [g, Bool.true_and, decide_eq_true_iff, e1, e2, Int.toNat_natCast, cm_ge (by omega)]
  constructor
  · intro q i hi; have := q i hi; rwa [bt_fb hp32 _ i (by omega), if_pos hi] at this
  · intro q i hi; rw [bt_fb hp32 _ i (by omega), if_pos hi]; exact q i hi
theorem Ris.shr {l : List Nd} (h : Ris l) (h2 : 2 ≤ l.length) {x : Nd} (hx : x ∈ l) : Shr x.p (hp l) (cl l) := by
  obtain ⟨i, hi, rfl⟩ := List.getElem_of_mem hx
  exact sh_of_pf (h.share h2 (List.getElem?_eq_getElem hi))
theorem mem_lo {l : List Nd} {c : Nat} {x : Nd} (hx : x ∈ l.take (cut c l)) : bt x.p c = 0 := by
  obtain ⟨i, hi, rfl⟩ := List.getElem_of_mem hx
  have hi' := hi
  rw [List.length_take] at hi'
  refine cut_lo c l i _ ?_ (by omega)
  rw [← List.getElem?_eq_getElem hi, List.getElem?_eq_getElem hi, ← List.getElem?_eq_getElem hi, List.getElem?_take, if_pos (by omega), List.getElem?_eq_getElem (by omega)]
theorem mem_hi {l : List Nd} (h : Ris l) (h2 : 2 ≤ l.length) {x : Nd} (hx : x ∈ l.drop (cut (cl l) l)) : bt x.p (cl l) = 1 := by
  obtain ⟨i, hi, rfl⟩ := List.getElem_of_mem hx
  have hi' := hi
  rw [List.length_drop] at hi'
  exact h.cut_hi h2 (i := cut (cl l) l + i) (by rw [List.getElem?_eq_getElem (by omega), List.getElem_drop]) (by omega)
/-- Both readings of an opening are one. -/
theorem wo_opl (y : List Int) : ∀ (f : Nat) (l : List Nd), Ris l → l.length ≤ f → wo (fun n => hl n y) true f l = opl y l
  | 0, l, _, hf => by rw [List.length_eq_zero_iff.1 (Nat.le_zero.1 hf)]; rfl
  | f + 1, [], _, _ => rfl
  | f + 1, x :: r, h, hf => by
    simp only [wo]
    by_cases hr : r = []
    · subst hr
      rw [if_pos (.inr ⟨rfl, by trivial⟩)]
      exact (opl_same y (c := cmy y x) (by simp) (fun z hz => by simp at hz; rw [hz])).symm
    · have h2 : 2 ≤ (x :: r).length := by have := List.length_pos_iff.2 hr; simp only [List.length_cons]; omega
      obtain ⟨l, hl'⟩ : ∃ l, x :: r = l := ⟨_, rfl⟩
      have hne : l ≠ [] := by rw [← hl']; simp
      rw [hl'] at h h2 hf ⊢
      have hc := h.cl_lt h2
      by_cases hh : hl (ovl l) y = true
      · rw [if_neg (by rw [hh]; rintro (q | q); · cases q
                       · exact hr q.1), if_neg hr]
        obtain ⟨k1, k2⟩ := h.cut_in h2
        have hsh := (hl_ovl h h2 y).1 hh
        rw [wo_opl y f _ (h.sub (List.take_sublist _ _)) (by rw [List.length_take]; omega), wo_opl y f _ (h.sub (List.drop_sublist _ _)) (by rw [List.length_drop]; omega),
          ← opl_app y _ _ _ (Nat.le_refl _) ?_, List.take_append_drop]
        intro a ha b hb
        have a0 := mem_lo ha
        have b0 := mem_hi h h2 hb
        have sa : Shr a.p y (cl l) := fun i hi => (h.shr h2 (List.mem_of_mem_take ha) i hi).trans (hsh i hi)
        have sb : Shr b.p y (cl l) := fun i hi => (h.shr h2 (List.mem_of_mem_drop hb) i hi).trans (hsh i hi)
        have la : cl l ≤ cmy y a := (cm_ge (by omega)).2 sa
        have lb : cl l ≤ cmy y b := (cm_ge (by omega)).2 sb
        intro e
        rcases Nat.lt_or_eq_of_le la with q | q
        · have e1 := cm_sh a.p y 256 (cl l) q
          have e2 := cm_sh b.p y 256 (cl l) (by unfold cmy at e q; omega)
          omega
        · have e1 : bt a.p (cl l) ≠ bt y (cl l) := by have := cm_ne (a := a.p) (b := y) (m := 256) (by unfold cmy at q; omega); rwa [show cm a.p y 256 = cl l from q.symm] at this
          have e2 : bt b.p (cl l) ≠ bt y (cl l) := by have := cm_ne (a := b.p) (b := y) (m := 256) (by unfold cmy at e q; omega); rwa [show cm b.p y 256 = cl l by unfold cmy at e q; omega] at this
          have := bt_le y (cl l)
          omega
      · rw [if_pos (.inl (by simpa using hh))]
        have hn : ¬ Shr (hp l) y (cl l) := fun q => hh ((hl_ovl h h2 y).2 q)
        have hlt : cm (hp l) y 256 < cl l := by
          rcases Nat.lt_or_ge (cm (hp l) y 256) (cl l) with q | q
          · exact q
          · exact absurd ((cm_ge (by omega)).1 q) hn
        refine (opl_same y (c := cm (hp l) y 256) hne (fun z hz => ?_)).symm
        have hz := h.shr h2 hz
        refine cm_uniq (by omega) (fun i hi => (hz i (by omega)).trans (cm_sh (hp l) y 256 i hi)) (fun _ => ?_)
        rw [hz _ hlt]
        exact cm_ne (by omega)
end Go.Proofs.YtkeobajlikhghabDoor
/- Package tree: slices.IndexFunc over nodes, and its closures. -/
namespace Go.Proofs.YtkeobajlikhghabDoor
open Go Go.RowKit
set_option linter.unusedSimpArgs false
set_option linter.unusedVariables false
set_option maxRecDepth 100000

/-- The first place where a test holds, or -1. -/
def ixf (f : Nd → Bool) (l : List Nd) : Int := match l.findIdx? f with | some i => (i : Int) | none => -1
theorem ixf_at {f : Nd → Bool} {l : List Nd} {k : Nat} {x : Nd} (hx : l[k]? = some x) (h : f x = true) (hlo : ∀ (j : Nat) (y : Nd), j < k → l[j]? = some y → f y = false) : ixf f l = (k : Int) := by
  obtain ⟨hk, rfl⟩ := List.getElem?_eq_some_iff.1 hx
  have : l.findIdx? f = some k := List.findIdx?_eq_some_iff_getElem.2 ⟨hk, h, fun j hj => by rw [hlo j _ hj (List.getElem?_eq_getElem (by omega))]; decide⟩
  unfold ixf; rw [this]
theorem ixf_none {f : Nd → Bool} {l : List Nd} (h : ∀ x ∈ l, f x = false) : ixf f l = -1 := by
  have : l.findIdx? f = none := List.findIdx?_eq_none_iff.2 h
  unfold ixf; rw [this]
/-- An operation of two whose run is known. -/
theorem wp_bin_run {P : Program} {ops : Array Oper} {rest : List Oper} {o : Oper} {a : Act} {w : World} {Q : Exit → Act → World → Prop} (op : BinOp) (t t' : TypeId) (x y : Operand) (ho : o.op = .binOp op t x y t') (hw : Region.wanted o (yielded ops a.tmps) = true) (v u r : Value) (hx : a.eval x = v) (hy : a.eval y = u)
    (hg : (eqGuard op t x y v u).run P w = .ok () w) (hr : (binOp op t v u).run P w = .ok r w) (h : wpList P ops Q rest (a.put o.dst r) w) : wpList P ops Q (o :: rest) a w := by
  unfold wpList
  rw [if_pos hw]
  refine .inl ?_
  unfold Oper.wp execOp
  simp only [ho, hx, hy, Sem.run_bind, hg, hr, Result.andThen_ok, Sem.run_pure]
  exact h
set_option maxHeartbeats 4000000 in
theorem index_found (l : List Nd) (hk : ∀ x ∈ l, x.Ok) (hlen : l.length ≤ 140737488355328) (f : Nd → Bool) (p1 v : Value) (w : World) (hv : NS w v l)
    (hf : ∀ x ∈ l, ∀ W : World, Below w.heap.size w W → Calls Tryd.prog 23 #[.agg (nc x).toArray, p1] W fun e w' => e = .returned (.bool (f x)) ∧ Below W.heap.size W w') :
    Calls Tryd.prog 22 #[v, .func (.func 23) #[] #[p1]] w fun e w' => e = .returned (.int .i64 (ixf f l)) ∧ Below w.heap.size w w' := by
  have HF : Hid (∀ x ∈ l, ∀ W : World, Below w.heap.size w W → Calls Tryd.prog 23 #[.agg (nc x).toArray, p1] W fun e w' => e = .returned (.bool (f x)) ∧ Below W.heap.size W w') := hf
  obtain ⟨ad, cap, rfl, hc, hx⟩ := hv
  have HXX : Hid (l = [] ∧ (ad = none → cap = 0) ∨ ∃ b o, ad = some ⟨b, o, none⟩ ∧ b < w.heap.size ∧ ∀ (i : Nat) (x : Nd), l[i]? = some x → w.rangeAt b (o + i * 65) (nc x)) := hx
  have HK : Hid (∀ x ∈ l, x.Ok) := hk
  obtain ⟨len, hln⟩ : ∃ len, l.length = len := ⟨_, rfl⟩
  have HLN : Hid (l.length = len) := hln
  obtain ⟨R, hR⟩ : ∃ R, ixf f l = R := ⟨_, rfl⟩
  have HR : Hid (ixf f l = R) := hR
  rw [hR]
  rw [hln] at hlen ⊢
  clear hx hk hc hln hf hR
  go_enter Tryd.func22, Tryd.ntmps22
  go_wp2_with fail
  go_loopw [8] (fun i wr => ∃ k : Nat, k ≤ len ∧ i = .int .i64 (k : Int) ∧ (∀ (j : Nat) (x : Nd), j < k → l[j]? = some x → f x = false) ∧ Below w.heap.size w wr) (fun i _ => len - (intOf i).toNat)
  case atStart => exact ⟨0, Nat.zero_le _, rfl, fun j x hj => by omega, Below.refl _ _⟩
  case round =>
    obtain ⟨k, hkl, rfl, hall, h4⟩ := hrel
    have H4 : Hid (Below w.heap.size w wr) := h4
    have HA : Hid (∀ (j : Nat) (x : Nd), j < k → l[j]? = some x → f x = false) := hall
    clear h4 hall
    by_cases hlt : k < len
    · rcases HXX.out with ⟨h0, _⟩ | ⟨b, o, rfl, hlb, hm⟩
      · have := HLN.out; rw [h0] at this; simp at this; omega
      · obtain ⟨x, hx⟩ : ∃ x, l[k]? = some x := ⟨l[k]'(by have := HLN.out; omega), List.getElem?_eq_getElem _⟩
        have HX : Hid x.Ok := HK.out x (List.mem_of_getElem? hx)
        have HXK : Hid (l[k]? = some x) := hx
        have HRX : Hid (wr.rangeAt b (o + k * 65) (nc x)) := range_below (hm k x hx) (H4.out.mono (Nat.le_refl _)) hlb
        cases hb : f x with
        | false =>
          have HCL : Hid (Calls Tryd.prog 23 #[.agg (nc x).toArray, p1] wr fun e w' => e = .returned (.bool false) ∧ Below wr.heap.size wr w') := by have := HF.out x (List.mem_of_getElem? hx) wr H4.out; rw [hb] at this; exact this
          have HB : Hid (f x = false) := hb
          obtain ⟨X, hX⟩ : ∃ X, (nc x).toArray = X := ⟨_, rfl⟩
          rw [hX] at HCL
          clear hm hlb hx hb
          go_wp2_with (first
            | (refine load_g rfl 35 (.tmp 14) rfl b (o + k * 65) rfl (nc x) _ HRX.out Tryd.underlying35 rfl (size_nc HX.out) ?_; rw [hX])
            | (go_at_call 23; refine HCL.out.mono ?_; rintro e w2 ⟨rfl, h5⟩; have H5 : Hid (Below wr.heap.size wr w2) := h5; clear h5))
          exact ⟨⟨k + 1, by omega, by go_num, fun j z hj hz => by
            rcases Nat.lt_succ_iff_lt_or_eq.1 hj with q | rfl
            · exact HA.out j z q hz
            · rw [HXK.out] at hz; cases hz; exact HB.out, H4.out.trans (H5.out.mono H4.out.size)⟩, by simp [intOf]; omega⟩
        | true =>
          have HCL : Hid (Calls Tryd.prog 23 #[.agg (nc x).toArray, p1] wr fun e w' => e = .returned (.bool true) ∧ Below wr.heap.size wr w') := by have := HF.out x (List.mem_of_getElem? hx) wr H4.out; rw [hb] at this; exact this
          have HRR : Hid (R = (k : Int)) := by show R = _; rw [← HR.out]; exact ixf_at hx hb HA.out
          obtain ⟨X, hX⟩ : ∃ X, (nc x).toArray = X := ⟨_, rfl⟩
          rw [hX] at HCL
          clear hm hlb hx hb
          go_wp2_with (first
            | (refine load_g rfl 35 (.tmp 14) rfl b (o + k * 65) rfl (nc x) _ HRX.out Tryd.underlying35 rfl (size_nc HX.out) ?_; rw [hX])
            | (go_at_call 23; refine HCL.out.mono ?_; rintro e w2 ⟨rfl, h5⟩; have H5 : Hid (Below wr.heap.size wr w2) := h5; clear h5))
          go_ret
          exact ⟨by rw [HRR.out]; rfl, H4.out.trans (H5.out.mono H4.out.size)⟩
    · have HRR : Hid (R = -1) := by
        show R = -1
        rw [← HR.out]
        refine ixf_none (fun x hx => ?_)
        obtain ⟨i, hi, rfl⟩ := List.getElem_of_mem hx
        exact HA.out i _ (by have := HLN.out; omega) (List.getElem?_eq_getElem hi)
      go_wp2_with fail
      go_ret
      exact ⟨by rw [HRR.out]; rfl, H4.out⟩
set_option maxHeartbeats 4000000 in
theorem index_leaving (l : List Nd) (hk : ∀ x ∈ l, x.Ok) (hlen : l.length ≤ 140737488355328) (f : Nd → Bool) (p1 p2 v : Value) (w : World) (hv : NS w v l)
    (hf : ∀ x ∈ l, ∀ W : World, Below w.heap.size w W → Calls Tryd.prog 46 #[.agg (nc x).toArray, p1, p2] W fun e w' => e = .returned (.bool (f x)) ∧ Below W.heap.size W w') :
    Calls Tryd.prog 22 #[v, .func (.func 46) #[] #[p1, p2]] w fun e w' => e = .returned (.int .i64 (ixf f l)) ∧ Below w.heap.size w w' := by
  have HF : Hid (∀ x ∈ l, ∀ W : World, Below w.heap.size w W → Calls Tryd.prog 46 #[.agg (nc x).toArray, p1, p2] W fun e w' => e = .returned (.bool (f x)) ∧ Below W.heap.size W w') := hf
  obtain ⟨ad, cap, rfl, hc, hx⟩ := hv
  have HXX : Hid (l = [] ∧ (ad = none → cap = 0) ∨ ∃ b o, ad = some ⟨b, o, none⟩ ∧ b < w.heap.size ∧ ∀ (i : Nat) (x : Nd), l[i]? = some x → w.rangeAt b (o + i * 65) (nc x)) := hx
  have HK : Hid (∀ x ∈ l, x.Ok) := hk
  obtain ⟨len, hln⟩ : ∃ len, l.length = len := ⟨_, rfl⟩
  have HLN : Hid (l.length = len) := hln
  obtain ⟨R, hR⟩ : ∃ R, ixf f l = R := ⟨_, rfl⟩
  have HR : Hid (ixf f l = R) := hR
  rw [hR]
  rw [hln] at hlen ⊢
  clear hx hk hc hln hf hR
  go_enter Tryd.func22, Tryd.ntmps22
  go_wp2_with fail
  go_loopw [8] (fun i wr => ∃ k : Nat, k ≤ len ∧ i = .int .i64 (k : Int) ∧ (∀ (j : Nat) (x : Nd), j < k → l[j]? = some x → f x = false) ∧ Below w.heap.size w wr) (fun i _ => len - (intOf i).toNat)
  case atStart => exact ⟨0, Nat.zero_le _, rfl, fun j x hj => by omega, Below.refl _ _⟩
  case round =>
    obtain ⟨k, hkl, rfl, hall, h4⟩ := hrel
    have H4 : Hid (Below w.heap.size w wr) := h4
    have HA : Hid (∀ (j : Nat) (x : Nd), j < k → l[j]? = some x → f x = false) := hall
    clear h4 hall
    by_cases hlt : k < len
    · rcases HXX.out with ⟨h0, _⟩ | ⟨b, o, rfl, hlb, hm⟩
      · have := HLN.out; rw [h0] at this; simp at this; omega
      · obtain ⟨x, hx⟩ : ∃ x, l[k]? = some x := ⟨l[k]'(by have := HLN.out; omega), List.getElem?_eq_getElem _⟩
        have HX : Hid x.Ok := HK.out x (List.mem_of_getElem? hx)
        have HXK : Hid (l[k]? = some x) := hx
        have HRX : Hid (wr.rangeAt b (o + k * 65) (nc x)) := range_below (hm k x hx) (H4.out.mono (Nat.le_refl _)) hlb
        cases hb : f x with
        | false =>
          have HCL : Hid (Calls Tryd.prog 46 #[.agg (nc x).toArray, p1, p2] wr fun e w' => e = .returned (.bool false) ∧ Below wr.heap.size wr w') := by have := HF.out x (List.mem_of_getElem? hx) wr H4.out; rw [hb] at this; exact this
          have HB : Hid (f x = false) := hb
          obtain ⟨X, hX⟩ : ∃ X, (nc x).toArray = X := ⟨_, rfl⟩
          rw [hX] at HCL
          clear hm hlb hx hb
          go_wp2_with (first
            | (refine load_g rfl 35 (.tmp 14) rfl b (o + k * 65) rfl (nc x) _ HRX.out Tryd.underlying35 rfl (size_nc HX.out) ?_; rw [hX])
            | (go_at_call 46; refine HCL.out.mono ?_; rintro e w2 ⟨rfl, h5⟩; have H5 : Hid (Below wr.heap.size wr w2) := h5; clear h5))
          exact ⟨⟨k + 1, by omega, by go_num, fun j z hj hz => by
            rcases Nat.lt_succ_iff_lt_or_eq.1 hj with q | rfl
            · exact HA.out j z q hz
            · rw [HXK.out] at hz; cases hz; exact HB.out, H4.out.trans (H5.out.mono H4.out.size)⟩, by simp [intOf]; omega⟩
        | true =>
          have HCL : Hid (Calls Tryd.prog 46 #[.agg (nc x).toArray, p1, p2] wr fun e w' => e = .returned (.bool true) ∧ Below wr.heap.size wr w') := by have := HF.out x (List.mem_of_getElem? hx) wr H4.out; rw [hb] at this; exact this
          have HRR : Hid (R = (k : Int)) := by show R = _; rw [← HR.out]; exact ixf_at hx hb HA.out
          obtain ⟨X, hX⟩ : ∃ X, (nc x).toArray = X := ⟨_, rfl⟩
          rw [hX] at HCL
          clear hm hlb hx hb
          go_wp2_with (first
            | (refine load_g rfl 35 (.tmp 14) rfl b (o + k * 65) rfl (nc x) _ HRX.out Tryd.underlying35 rfl (size_nc HX.out) ?_; rw [hX])
            | (go_at_call 46; refine HCL.out.mono ?_; rintro e w2 ⟨rfl, h5⟩; have H5 : Hid (Below wr.heap.size wr w2) := h5; clear h5))
          go_ret
          exact ⟨by rw [HRR.out]; rfl, H4.out.trans (H5.out.mono H4.out.size)⟩
    · have HRR : Hid (R = -1) := by
        show R = -1
        rw [← HR.out]
        refine ixf_none (fun x hx => ?_)
        obtain ⟨i, hi, rfl⟩ := List.getElem_of_mem hx
        exact HA.out i _ (by have := HLN.out; omega) (List.getElem?_eq_getElem hi)
      go_wp2_with fail
      go_ret
      exact ⟨by rw [HRR.out]; rfl, H4.out⟩
set_option maxHeartbeats 2000000 in
theorem fclosure_any (x : Nd) (hx : x.Ok) (y : List Int) (hy : L32 y) (bn : Nat) (w : World) (hb : bn < w.heap.size) (hr : w.rangeAt bn 0 (bv y)) :
    Calls Tryd.prog 23 #[.agg (nc x).toArray, .pointer (some ⟨bn, 0, none⟩)] w fun e w' => e = .returned (.bool (hl x y)) ∧ Below w.heap.size w w' := by
  have ra := range_alloc w (nc x) 35 (0, 0)
  have s1 := nc_size hx
  have HHO : Hid (∀ W : World, Calls Tryd.prog 24 #[.agg (nc x).toArray, .agg (bv y).toArray] W fun e w' => e = .returned (.bool (hl x y)) ∧ Below W.heap.size W w') := fun W => holds_any x hx y hy W
  obtain ⟨g, hg⟩ : ∃ g, hl x y = g := ⟨_, rfl⟩
  rw [hg] at HHO ⊢
  obtain ⟨A, hA⟩ : ∃ A, (nc x).toArray = A := ⟨_, rfl⟩
  have HA : Hid ((nc x).toArray = A) := hA
  rw [hA] at ra s1 ⊢
  obtain ⟨U, hU⟩ : ∃ U, w.alloc (.cells A 35) = U := ⟨_, rfl⟩
  have bU : Below w.heap.size w U := by rw [← hU]; exact (Below.refl _ w).alloc (Nat.le_refl _) _
  rw [hU] at ra
  have BU : Hid (Below w.heap.size w U) := bU
  have RY : Hid (U.rangeAt bn 0 (bv y)) := range_below hr bU hb
  have HX : Hid x.Ok := hx
  have HY : Hid (L32 y) := hy
  obtain ⟨D, hD⟩ : ∃ D, w.heap.size = D := ⟨_, rfl⟩
  rw [hD] at ra
  have RX : Hid (U.rangeAt D 0 (nc x)) := ra
  clear ra bU hr hx hy hg
  go_enter Tryd.func23, Tryd.ntmps23
  go_upto_region 1 with (fail)
  try rw [hU]
  try rw [hD]
  clear hU hD hA
  go_wp2_with (first
    | (refine ld 35 (.tmp 2) rfl rfl D 0 rfl (nc x) _ RX.out Tryd.underlying35 rfl (size_nc HX.out) ?_)
    | (refine ld 23 (.tmp 1) rfl rfl bn 0 rfl (bv y) _ RY.out Tryd.underlying23 rfl (size_l32 HY.out) ?_)
    | (go_at_call 24; refine (HHO.out U).mono ?_; rintro e w2 ⟨rfl, h5⟩; have H5 : Hid (Below U.heap.size U w2) := h5; clear h5))
  go_ret
  exact ⟨rfl, BU.out.trans (H5.out.mono BU.out.size)⟩
end Go.Proofs.YtkeobajlikhghabDoor
