/- Leaves that come in. -/
import Derived.Test.YtkeobajlikhghaaDoorTrcV
import Derived.Test.YtkeobajlikhghaaDoorTreZ
namespace Go.Proofs.YtkeobajlikhghaaDoor
open Go Go.RowKit
set_option linter.unusedSimpArgs false
set_option linter.unusedVariables false

theorem itemL {H : Type} {enc : TypeId × Value → H} {W : World} {fuel : Nat} {cs : List Value} {y : DataW H × List MemPlace} (h : DataW.trod enc Tryd.prog W 0 (fun _ => true) true fuel 41 cs = some y) :
    ∃ x : Lf, cs = lfc x ∧ x.Ok := by
  obtain ⟨xs, n, _, _, hl, hlen, hx⟩ := DataW.trod_struct Tryd.underlying41 h
  rw [show Tryd.prog.cellsOf 41 = 64 by kernel_rfl] at hl
  have g : ∀ i, i < 2 → ∃ y, xs[i]? = some y := fun i hi => ⟨xs[i]'(by rw [hlen]; exact hi), List.getElem?_eq_getElem _⟩
  obtain ⟨y1, e1⟩ := g 0 (by omega)
  obtain ⟨y2, e2⟩ := g 1 (by omega)
  have k1 : DataW.trod enc Tryd.prog W 0 (fun _ => true) true n 23 ((cs.drop 0).take (Tryd.prog.cellsOf 23)) = some y1 := (hx 0 _ rfl).trans e1
  have k2 : DataW.trod enc Tryd.prog W 0 (fun _ => true) true n 23 ((cs.drop 32).take (Tryd.prog.cellsOf 23)) = some y2 := (hx 1 _ rfl).trans e2
  obtain ⟨x1, c1, l1, b1⟩ := open_arr Tryd.underlying23 (by kernel_rfl) k1
  obtain ⟨x2, c2, l2, b2⟩ := open_arr Tryd.underlying23 (by kernel_rfl) k2
  have q32 : Tryd.prog.cellsOf 23 = 32 := by kernel_rfl
  have d1 : (cs.drop 0).take 32 = bv x1 := by rw [q32] at c1; exact c1
  have d2 : (cs.drop 32).take 32 = bv x2 := by rw [q32] at c2; exact c2
  refine ⟨⟨x1, x2⟩, ?_, ⟨⟨l1, b1⟩, ⟨l2, b2⟩⟩⟩
  have s0 := taken d1
  rw [List.drop_zero, Nat.zero_add] at s0
  rw [s0, taken d2, List.drop_of_length_le (by omega)]
  simp [lfc, lf]
theorem open_leaves {H : Type} {enc : TypeId × Value → H} {W : World} {a : Option Addr} {l c : Nat} {d : DataW H} {p : List MemPlace}
    (h : DataW.Trod enc Tryd.prog W 0 (fun _ => true) true 37 (.slice a l c) d p) (hw : ∀ n ∈ d.weights Tryd.prog 37, n ≤ reachBytes) :
    ∃ m : List Lf, LS W (.slice a l c) m ∧ (∀ x ∈ m, x.Ok) ∧ m.length ≤ 2500000000000 := by
  obtain ⟨fuel, hf⟩ := h
  rcases DataW.trod_slice Tryd.underlying37 hf with ⟨hcs, hx⟩ | ⟨a', l', c', elems, rest, n, _, hcs, hx, hb, hl, hm, hlen, hel, hsp, _⟩
  · simp [Value.cells] at hcs
    obtain ⟨rfl, rfl, rfl⟩ := hcs
    exact ⟨[], ⟨none, 0, rfl, Nat.le_refl _, .inl ⟨rfl, fun _ => rfl⟩⟩, (fun x hx => by cases hx), by simp⟩
  · simp [Value.cells] at hcs
    obtain ⟨rfl, rfl, rfl⟩ := hcs
    have hce : Tryd.prog.cellsOf 41 = 64 := by kernel_rfl
    have hd : d = .slice (elems.map (·.1)) (rest.map (·.1)) := congrArg Prod.fst hx
    have hlen64 : l * 64 ≤ 140737488351232 := by
      have := hw (((elems.map (·.1)).length + (rest.map (·.1)).length) * Tryd.prog.bytesOf 41) (by
        rw [hd]
        simp only [DataW.weights, Tryd.underlying37]
        exact List.mem_cons_self)
      rw [show Tryd.prog.bytesOf 41 = 64 by kernel_rfl, List.length_map, List.length_map] at this
      have hr : reachBytes = 140737488351232 := rfl
      omega
    have each : ∀ i, ∃ o : Lf, i < l → (∀ j, j < 64 → W.cell? ((a'.add (i * 64)).add j) = (lfc o)[j]?) ∧ o.Ok := by
      intro i
      by_cases hi : i < l
      · have he := hel i hi
        have hge : elems[i]? = some elems[i] := List.getElem?_eq_getElem (by omega)
        rw [hge, hce, Option.bind_eq_some_iff] at he
        obtain ⟨cs, h1, h2⟩ := he
        obtain ⟨o, rfl, hok⟩ := itemL h2
        exact ⟨o, fun _ => ⟨(World.cells?_some h1).2.2, hok⟩⟩
      · exact ⟨lfz, fun h => absurd h hi⟩
    obtain ⟨f, hf⟩ := Classical.axiomOfChoice each
    have hml : ((List.range l).map f).length = l := by simp
    refine ⟨(List.range l).map f, ⟨some a', c, by rw [hml], by rw [hml]; exact hl, ?_⟩, fun x hx => ?_, by rw [hml]; omega⟩
    · by_cases h0 : l = 0
      · exact .inl ⟨by subst h0; rfl, fun h => by cases h⟩
      · have hc0 := (hf 0 (by omega)).1 0 (by omega)
        obtain ⟨u0, hu0⟩ : ∃ u, (lfc (f 0))[0]? = some u := ⟨_, List.getElem?_eq_getElem (by rw [lfc_length (hf 0 (by omega)).2]; omega)⟩
        have hc1 := hc0.trans hu0
        obtain ⟨hs, hlt⟩ := addr_of_cell hc1
        obtain ⟨b, off, sp⟩ := a'
        have hs' : sp = none := by
          cases sp with
          | none => rfl
          | some q => simp [Addr.add] at hs
        subst hs'
        refine .inr ⟨b, off, rfl, by simpa [Addr.add] using hlt, fun i x hi j u hu => ?_⟩
        rw [List.getElem?_map] at hi
        obtain ⟨q, hq, rfl⟩ := Option.map_eq_some_iff.1 hi
        obtain ⟨hil, rfl⟩ := List.getElem?_eq_some_iff.1 hq
        rw [List.getElem_range] at hu
        have hil' : i < l := by simpa using hil
        have hj : j < 64 := by have := (List.getElem?_eq_some_iff.1 hu).1; rw [lfc_length (hf i hil').2] at this; exact this
        have := (hf i hil').1 j hj
        rw [addr_add0, addr_add0, hu] at this
        exact this
    · obtain ⟨i, hi, rfl⟩ := List.mem_map.1 hx
      exact (hf i (List.mem_range.1 hi)).2
end Go.Proofs.YtkeobajlikhghaaDoor
/- Plain mathematics: openings of a tree at a label. -/
namespace Go.Proofs.YtkeobajlikhghaaDoor
open Go Go.RowKit
set_option linter.unusedSimpArgs false
set_option linter.unusedVariables false
set_option maxRecDepth 100000

/-- How many first bits a node's Prefix has in common with a label. -/
def cmy (y : List Int) (x : Nd) : Nat := cm x.p y 256
/-- How many of the first leave the way at one bit. -/
def lvg (y : List Int) (l : List Nd) : Nat := (l.takeWhile (fun x => decide (cmy y x = cm (hp l) y 256))).length
def opn (y : List Int) : Nat → List Nd → List Nd
  | 0, _ => []
  | _ + 1, [] => []
  | f + 1, x :: r => ovl ((x :: r).take (lvg y (x :: r))) :: opn y f ((x :: r).drop (lvg y (x :: r)))
/-- The opening of nodes that rise at a label. -/
def opl (y : List Int) (l : List Nd) : List Nd := opn y l.length l
theorem lvg_pos (y : List Int) (x : Nd) (r : List Nd) : 1 ≤ lvg y (x :: r) := by
  unfold lvg
  rw [List.takeWhile_cons, if_pos (by simp [hp, cmy]), List.length_cons]
  omega
theorem lvg_le (y : List Int) (l : List Nd) : lvg y l ≤ l.length := (List.takeWhile_sublist _).length_le
theorem opn_nil (y : List Int) : ∀ f, opn y f [] = []
  | 0 => rfl
  | _ + 1 => rfl
theorem opn_fuel (y : List Int) : ∀ (f g : Nat) (l : List Nd), l.length ≤ f → l.length ≤ g → opn y f l = opn y g l
  | 0, g, l, hf, _ => by rw [List.length_eq_zero_iff.1 (Nat.le_zero.1 hf), opn_nil, opn_nil]
  | f + 1, 0, l, _, hg => by rw [List.length_eq_zero_iff.1 (Nat.le_zero.1 hg), opn_nil, opn_nil]
  | f + 1, g + 1, [], _, _ => rfl
  | f + 1, g + 1, x :: r, hf, hg => by
    have h1 := lvg_pos y x r
    have h2 : ((x :: r).drop (lvg y (x :: r))).length = r.length + 1 - lvg y (x :: r) := by rw [List.length_drop]; rfl
    simp only [List.length_cons] at hf hg
    simp only [opn]
    rw [opn_fuel y f g _ (by omega) (by omega)]
theorem opl_nil (y : List Int) : opl y [] = [] := rfl
theorem opl_cons (y : List Int) {l : List Nd} (h : l ≠ []) : opl y l = ovl (l.take (lvg y l)) :: opl y (l.drop (lvg y l)) := by
  cases l with
  | nil => exact absurd rfl h
  | cons x r =>
    have h1 := lvg_pos y x r
    have h2 : ((x :: r).drop (lvg y (x :: r))).length = r.length + 1 - lvg y (x :: r) := by rw [List.length_drop]; rfl
    show opn y (r.length + 1) (x :: r) = _
    simp only [opn, opl]
    rw [opn_fuel y r.length _ _ (by omega) (Nat.le_refl _)]
theorem tw_app {p : Nd → Bool} {b : List Nd} (hb : ∀ z ∈ b, p z = false) : ∀ a : List Nd, ((a ++ b).takeWhile p).length = (a.takeWhile p).length
  | [] => by
    cases b with
    | nil => rfl
    | cons z s => rw [List.nil_append, List.takeWhile_cons, if_neg (by rw [hb z List.mem_cons_self]; decide)]; rfl
  | x :: r => by
    rw [List.cons_append, List.takeWhile_cons, List.takeWhile_cons]
    cases p x with
    | false => rfl
    | true => simp only [if_true, List.length_cons]; rw [tw_app hb r]
theorem tw_all {p : Nd → Bool} : ∀ {a : List Nd}, (∀ z ∈ a, p z = true) → (a.takeWhile p).length = a.length
  | [], _ => rfl
  | x :: r, h => by
    rw [List.takeWhile_cons, if_pos (h x List.mem_cons_self), List.length_cons, tw_all (fun z hz => h z (List.mem_cons_of_mem _ hz)), List.length_cons]
theorem opl_app (y : List Int) : ∀ (n : Nat) (a b : List Nd), a.length ≤ n → (∀ x ∈ a, ∀ z ∈ b, cmy y x ≠ cmy y z) → opl y (a ++ b) = opl y a ++ opl y b
  | _, [], b, _, _ => by rw [List.nil_append, opl_nil, List.nil_append]
  | 0, x :: r, b, h, _ => absurd h (by simp)
  | n + 1, x :: r, b, hn, h => by
    have e : lvg y ((x :: r) ++ b) = lvg y (x :: r) := by
      unfold lvg
      rw [show hp ((x :: r) ++ b) = hp (x :: r) from rfl]
      exact tw_app (fun z hz => by rw [decide_eq_false_iff_not]; intro g; exact h x List.mem_cons_self z hz g.symm) _
    have k1 := lvg_pos y x r
    have k2 := lvg_le y (x :: r)
    rw [opl_cons y (l := (x :: r) ++ b) (by simp), opl_cons y (l := x :: r) (by simp), e, List.take_append_of_le_length k2, List.drop_append_of_le_length k2, List.cons_append,
      opl_app y n _ b (by rw [List.length_drop]; simp only [List.length_cons] at hn k2 ⊢; omega) (fun q hq z hz => h q (List.mem_of_mem_drop hq) z hz)]
theorem opl_same (y : List Int) {l : List Nd} {c : Nat} (hne : l ≠ []) (h : ∀ x ∈ l, cmy y x = c) : opl y l = [ovl l] := by
  have e : lvg y l = l.length := by
    unfold lvg
    refine tw_all (fun z hz => ?_)
    rw [decide_eq_true_iff, h z hz]
    cases l with
    | nil => exact absurd rfl hne
    | cons x r => exact (h x List.mem_cons_self).symm
  rw [opl_cons y hne, e, List.take_length, List.drop_length, opl_nil]
/-- What a reading from above leaves: all that no wanted node holds. -/
def wo (hd : Nd → Bool) (own : Bool) : Nat → List Nd → List Nd
  | 0, _ => []
  | _ + 1, [] => []
  | f + 1, x :: r => if hd (ovl (x :: r)) = false ∨ (r = [] ∧ own = true) then [ovl (x :: r)] else if r = [] then [] else wo hd own f ((x :: r).take (cut (cl (x :: r)) (x :: r))) ++ wo hd own f ((x :: r).drop (cut (cl (x :: r)) (x :: r)))
theorem wo_nil (hd : Nd → Bool) (own : Bool) : ∀ f, wo hd own f [] = []
  | 0 => rfl
  | _ + 1 => rfl
theorem fb_fb {x : List Int} (h : L32 x) (n : Nat) : fb (fb x n) n = fb x n :=
  l32_of_bits (fb_l32 (fb_l32 h n) n) (fb_l32 h n) (fun i hi => by rw [bt_fb (fb_l32 h n) n i hi, bt_fb h n i hi]; split <;> rfl)
theorem ovl_two {l : List Nd} (h : Ris l) (h2 : 2 ≤ l.length) : (ovl l).n = (cl l : Nat) ∧ (ovl l).p = fb (hp l) (cl l) := by
  obtain ⟨f, hf⟩ : ∃ f, l.length = f + 1 := ⟨l.length - 1, by omega⟩
  unfold ovl
  rw [hf]
  simp only [ov]
  rw [if_neg (by omega)]
  exact ⟨rfl, rfl⟩
theorem hp_l32 {l : List Nd} (h : Ris l) (hne : l ≠ []) : L32 (hp l) := by
  cases l with
  | nil => exact absurd rfl hne
  | cons x r => exact (h.ok x List.mem_cons_self).p
/-- The node over two or more holds a label that begins as they all do. -/
theorem hl_ovl {l : List Nd} (h : Ris l) (h2 : 2 ≤ l.length) (y : List Int) : hl (ovl l) y = true ↔ Shr (hp l) y (cl l) := by
  obtain ⟨e1, e2⟩ := ovl_two h h2
  have hc := h.cl_lt h2
  have hp32 := hp_l32 h (fun e => by rw [e] at h2; simp at h2)
  have g : gd (ovl l) = true := gd_iff.2 ⟨by rw [e1]; omega, by rw [e1]; omega, by rw [e1, e2, Int.toNat_natCast]; exact fb_fb hp32 _⟩
  unfold hl
  rw [g, Bool.true_and, decide_eq_true_iff, e1, e2, Int.toNat_natCast, cm_ge (by omega)]
  constructor
  · intro q i hi; have := q i hi; rwa [bt_fb hp32 _ i (by omega), if_pos hi] at this
  · intro q i hi; rw [bt_fb hp32 _ i (by omega), if_pos hi]; exact q i hi
theorem Ris.shr {l : List Nd} (h : Ris l) (h2 : 2 ≤ l.length) {x : Nd} (hx : x ∈ l) : Shr x.p (hp l) (cl l) := by
  obtain ⟨i, hi, rfl⟩ := List.getElem_of_mem hx
  exact sh_of_pf (h.share h2 (List.getElem?_eq_getElem hi))
theorem mem_lo {l : List Nd} {c : Nat} {x : Nd} (hx : x ∈ l.take (cut c l)) : bt x.p c = 0 := by
  obtain ⟨i, hi, rfl⟩ := List.getElem_of_mem hx
  have hi' := hi
  rw [List.length_take] at hi'
  refine cut_lo c l i _ ?_ (by omega)
  rw [← List.getElem?_eq_getElem hi, List.getElem?_eq_getElem hi, ← List.getElem?_eq_getElem hi, List.getElem?_take, if_pos (by omega), List.getElem?_eq_getElem (by omega)]
theorem mem_hi {l : List Nd} (h : Ris l) (h2 : 2 ≤ l.length) {x : Nd} (hx : x ∈ l.drop (cut (cl l) l)) : bt x.p (cl l) = 1 := by
  obtain ⟨i, hi, rfl⟩ := List.getElem_of_mem hx
  have hi' := hi
  rw [List.length_drop] at hi'
  exact h.cut_hi h2 (i := cut (cl l) l + i) (by rw [List.getElem?_eq_getElem (by omega), List.getElem_drop]) (by omega)
/-- Both readings of an opening are one. -/
theorem wo_opl (y : List Int) : ∀ (f : Nat) (l : List Nd), Ris l → l.length ≤ f → wo (fun n => hl n y) true f l = opl y l
  | 0, l, _, hf => by rw [List.length_eq_zero_iff.1 (Nat.le_zero.1 hf)]; rfl
  | f + 1, [], _, _ => rfl
  | f + 1, x :: r, h, hf => by
    simp only [wo]
    by_cases hr : r = []
    · subst hr
      rw [if_pos (.inr ⟨rfl, by trivial⟩)]
      exact (opl_same y (c := cmy y x) (by simp) (fun z hz => by simp at hz; rw [hz])).symm
    · have h2 : 2 ≤ (x :: r).length := by have := List.length_pos_iff.2 hr; simp only [List.length_cons]; omega
      obtain ⟨l, hl'⟩ : ∃ l, x :: r = l := ⟨_, rfl⟩
      have hne : l ≠ [] := by rw [← hl']; simp
      rw [hl'] at h h2 hf ⊢
      have hc := h.cl_lt h2
      by_cases hh : hl (ovl l) y = true
      · rw [if_neg (by rw [hh]; rintro (q | q); · cases q
                       · exact hr q.1), if_neg hr]
        obtain ⟨k1, k2⟩ := h.cut_in h2
        have hsh := (hl_ovl h h2 y).1 hh
        rw [wo_opl y f _ (h.sub (List.take_sublist _ _)) (by rw [List.length_take]; omega), wo_opl y f _ (h.sub (List.drop_sublist _ _)) (by rw [List.length_drop]; omega),
          ← opl_app y _ _ _ (Nat.le_refl _) ?_, List.take_append_drop]
        intro a ha b hb
        have a0 := mem_lo ha
        have b0 := mem_hi h h2 hb
        have sa : Shr a.p y (cl l) := fun i hi => (h.shr h2 (List.mem_of_mem_take ha) i hi).trans (hsh i hi)
        have sb : Shr b.p y (cl l) := fun i hi => (h.shr h2 (List.mem_of_mem_drop hb) i hi).trans (hsh i hi)
        have la : cl l ≤ cmy y a := (cm_ge (by omega)).2 sa
        have lb : cl l ≤ cmy y b := (cm_ge (by omega)).2 sb
        intro e
        rcases Nat.lt_or_eq_of_le la with q | q
        · have e1 := cm_sh a.p y 256 (cl l) q
          have e2 := cm_sh b.p y 256 (cl l) (by unfold cmy at e q; omega)
          omega
        · have e1 : bt a.p (cl l) ≠ bt y (cl l) := by have := cm_ne (a := a.p) (b := y) (m := 256) (by unfold cmy at q; omega); rwa [show cm a.p y 256 = cl l from q.symm] at this
          have e2 : bt b.p (cl l) ≠ bt y (cl l) := by have := cm_ne (a := b.p) (b := y) (m := 256) (by unfold cmy at e q; omega); rwa [show cm b.p y 256 = cl l by unfold cmy at e q; omega] at this
          have := bt_le y (cl l)
          omega
      · rw [if_pos (.inl (by simpa using hh))]
        have hn : ¬ Shr (hp l) y (cl l) := fun q => hh ((hl_ovl h h2 y).2 q)
        have hlt : cm (hp l) y 256 < cl l := by
          rcases Nat.lt_or_ge (cm (hp l) y 256) (cl l) with q | q
          · exact q
          · exact absurd ((cm_ge (by omega)).1 q) hn
        refine (opl_same y (c := cm (hp l) y 256) hne (fun z hz => ?_)).symm
        have hz := h.shr h2 hz
        refine cm_uniq (by omega) (fun i hi => (hz i (by omega)).trans (cm_sh (hp l) y 256 i hi)) (fun _ => ?_)
        rw [hz _ hlt]
        exact cm_ne (by omega)
end Go.Proofs.YtkeobajlikhghaaDoor
