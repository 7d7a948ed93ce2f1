/- Plain mathematics: nodes stand for what they are over. -/
import Derived.Test.YtoldkelnjjphiaaDoorTrlV
import Derived.Test.YtoldkelnjjphiaaDoorTrjD
import Derived.Test.YtoldkelnjjphiaaDoorTrfA
import Derived.Test.YtoldkelnjjphiaaDoorTrfB
namespace Go.Proofs.YtoldkelnjjphiaaDoor
open Go Go.RowKit
set_option linter.unusedSimpArgs false
set_option linter.unusedVariables false
set_option maxRecDepth 100000

/-- Some nodes put under the nodes over them, along the tree. -/
inductive Cu : List Nd → List Nd → Prop
  | one {l : List Nd} (h : l ≠ []) : Cu l [ovl l]
  | two {l a b : List Nd} (h : 2 ≤ l.length) (ha : Cu (l.take (cut (cl l) l)) a) (hb : Cu (l.drop (cut (cl l) l)) b) : Cu l (a ++ b)
/-- Good nodes that are apart. -/
structure Apn (l : List Nd) : Prop where
  ok : ∀ x ∈ l, x.Ok
  ap : apt l = true
theorem Apn.rsn {l : List Nd} (h : Apn l) : Rsn l := apt_rsn h.ok h.ap
theorem apt_take : ∀ (l : List Nd) (k : Nat), apt l = true → apt (l.take k) = true
  | [], _, _ => by simp [apt]
  | _ :: _, 0, _ => rfl
  | [a], k + 1, h => by simpa using h
  | a :: b :: r, 1, h => by simp only [apt, Bool.and_eq_true] at h; exact h.1
  | a :: b :: r, k + 2, h => by
    simp only [apt, Bool.and_eq_true] at h
    have ih := apt_take (b :: r) (k + 1) h.2.2
    show apt (a :: b :: r.take k) = true
    simp only [apt, Bool.and_eq_true]
    exact ⟨h.1, h.2.1, ih⟩
theorem apt_drop : ∀ (l : List Nd) (k : Nat), apt l = true → apt (l.drop k) = true
  | l, 0, h => h
  | [], _ + 1, _ => rfl
  | [a], k + 1, _ => by simp [apt]
  | a :: b :: r, k + 1, h => by simp only [apt, Bool.and_eq_true] at h; exact apt_drop (b :: r) k h.2.2
theorem Apn.take {l : List Nd} (h : Apn l) (k : Nat) : Apn (l.take k) := ⟨fun x hx => h.ok x (List.mem_of_mem_take hx), apt_take l k h.ap⟩
theorem Apn.drop {l : List Nd} (h : Apn l) (k : Nat) : Apn (l.drop k) := ⟨fun x hx => h.ok x (List.mem_of_mem_drop hx), apt_drop l k h.ap⟩
theorem apt_next : ∀ {l : List Nd}, apt l = true → ∀ (i : Nat) (x y : Nd), l[i]? = some x → l[i + 1]? = some y → ap2 x y = true
  | [], _, i, x, y, h, _ => by simp at h
  | [a], _, i, x, y, _, h => by simp at h
  | a :: b :: r, h, 0, x, y, hx, hy => by
    simp only [apt, Bool.and_eq_true] at h
    simp at hx hy; subst hx hy; exact h.2.1
  | a :: b :: r, h, i + 1, x, y, hx, hy => by
    simp only [apt, Bool.and_eq_true] at h
    exact apt_next h.2.2 i x y (by simpa using hx) (by simpa using hy)
/-- Of two or more each has more bits than all have in common. -/
theorem Apn.longer {l : List Nd} (h : Apn l) (h2 : 2 ≤ l.length) {x : Nd} (hx : x ∈ l) : (cl l : Int) < x.n := by
  obtain ⟨i, hi, rfl⟩ := List.getElem_of_mem hx
  have hr := h.rsn.ris
  have hc := hr.cl_lt h2
  obtain ⟨g1, g2, g3⟩ := gd_iff.1 (apt_good h.ap _ hx)
  have sh : ∀ j (hj : j < l.length), Shr l[j].p (hp l) (cl l) := fun j hj => hr.shr h2 (List.getElem_mem hj)
  rcases Int.lt_or_le (cl l : Int) (l[i]).n with q | q
  · exact q
  · exfalso
    have hn : (l[i]).n.toNat ≤ cl l := by omega
    rcases Nat.lt_or_ge (i + 1) l.length with q1 | q1
    · have := apt_next h.ap i _ _ (List.getElem?_eq_getElem hi) (List.getElem?_eq_getElem q1)
      unfold ap2 at this
      rw [Bool.and_eq_true] at this
      have hh : hl l[i] l[i + 1].p = true := by
        unfold hl
        rw [apt_good h.ap _ hx, Bool.true_and, decide_eq_true_iff, cm_ge (by omega)]
        intro k hk
        rw [sh i hi k (by omega), sh (i + 1) q1 k (by omega)]
      rw [hh] at this
      simp at this
    · have h3 : 0 < i := by omega
      have hlt := hr.lt (List.getElem?_eq_getElem (show i - 1 < l.length by omega)) (List.getElem?_eq_getElem hi) (by omega)
      have := good_least (a := l[i - 1].p) (h.ok _ hx).p (by omega) g3 (fun k hk => by rw [sh (i - 1) (by omega) k (by omega), sh i hi k (by omega)])
      omega
theorem apt_app : ∀ {a b : List Nd}, apt a = true → apt b = true → (∀ x y, a.getLast? = some x → b.head? = some y → ap2 x y = true) → apt (a ++ b) = true
  | [], b, _, hb, _ => hb
  | [x], [], ha, _, _ => ha
  | [x], y :: r, ha, hb, h => by
    show apt (x :: y :: r) = true
    simp only [apt, Bool.and_eq_true]
    exact ⟨ha, h x y rfl rfl, hb⟩
  | x :: z :: r, b, ha, hb, h => by
    simp only [apt, Bool.and_eq_true] at ha
    have ih := apt_app (a := z :: r) ha.2.2 hb (fun u v hu hv => h u v (by simpa using hu) hv)
    show apt (x :: z :: (r ++ b)) = true
    simp only [apt, Bool.and_eq_true]
    exact ⟨ha.1, ha.2.1, ih⟩
theorem cut_app {c : Nat} : ∀ {a b : List Nd}, (∀ x ∈ a, bt x.p c = 0) → (∀ x ∈ b, bt x.p c = 1) → cut c (a ++ b) = a.length
  | [], [], _, _ => rfl
  | [], y :: r, _, h => by
    show cut c (y :: r) = 0
    simp only [cut]; rw [if_neg (by have := h y (by simp); omega)]
  | x :: a, b, h1, h2 => by
    show cut c (x :: (a ++ b)) = a.length + 1
    simp only [cut]
    rw [if_pos (h1 x (by simp)), cut_app (fun z hz => h1 z (List.mem_cons_of_mem _ hz)) h2]
/-- All begin with the first k bits of q. -/
def Beg (q : List Int) (k : Nat) (l : List Nd) : Prop := ∀ x ∈ l, Shr x.p q k ∧ (k : Int) ≤ x.n
theorem beg_ovl {l : List Nd} (h : Apn l) (hne : l ≠ []) {q : List Int} {k : Nat} (hk : k ≤ 256) (hb : Beg q k l) : Shr (ovl l).p q k ∧ (k : Int) ≤ (ovl l).n := by
  by_cases h2 : 2 ≤ l.length
  · obtain ⟨e1, e2⟩ := ovl_two h.rsn.ris h2
    obtain ⟨a, ha⟩ : ∃ x, l[0]? = some x := ⟨l[0]'(by omega), List.getElem?_eq_getElem (by omega)⟩
    obtain ⟨b, hb'⟩ : ∃ x, l[l.length - 1]? = some x := ⟨l[l.length - 1]'(by omega), List.getElem?_eq_getElem (by omega)⟩
    have sa := (hb a (List.mem_of_getElem? ha)).1
    have sb := (hb b (List.mem_of_getElem? hb')).1
    have hkc : k ≤ cl l := by
      unfold cl; rw [hp_eq ha, lp_eq hb', cm_ge hk]
      exact fun i hi => (sa i hi).trans (sb i hi).symm
    have hc := h.rsn.ris.cl_lt h2
    rw [e1, e2]
    refine ⟨fun i hi => ?_, by omega⟩
    rw [bt_fb (hp_l32 h.rsn.ris hne) _ i (by omega), if_pos (by omega), hp_eq ha]
    exact sa i hi
  · cases l with
    | nil => exact absurd rfl hne
    | cons x r =>
      have : r = [] := List.length_eq_zero_iff.1 (by simp only [List.length_cons] at h2; omega)
      subst this
      exact hb x (by simp)
theorem ovl_gd {l : List Nd} (h : Apn l) (hne : l ≠ []) : gd (ovl l) = true := by
  by_cases h2 : 2 ≤ l.length
  · obtain ⟨e1, e2⟩ := ovl_two h.rsn.ris h2
    have hc := h.rsn.ris.cl_lt h2
    exact gd_iff.2 ⟨by rw [e1]; omega, by rw [e1]; omega, by rw [e1, e2, Int.toNat_natCast]; exact fb_fb (hp_l32 h.rsn.ris hne) _⟩
  · cases l with
    | nil => exact absurd rfl hne
    | cons x r =>
      have : r = [] := List.length_eq_zero_iff.1 (by simp only [List.length_cons] at h2; omega)
      subst this
      exact apt_good h.ap x (by simp)
/-- The two halves of nodes begin apart. -/
theorem half_beg {l : List Nd} (h : Apn l) (h2 : 2 ≤ l.length) : Beg (hp l) (cl l) l ∧ (∀ x ∈ l.take (cut (cl l) l), bt x.p (cl l) = 0) ∧ (∀ x ∈ l.drop (cut (cl l) l), bt x.p (cl l) = 1) :=
  ⟨fun x hx => ⟨h.rsn.ris.shr h2 hx, Int.le_of_lt (h.longer h2 hx)⟩, fun x hx => mem_lo hx, fun x hx => mem_hi h.rsn.ris h2 hx⟩
theorem shr_one {a b : List Int} {c : Nat} (h : Shr a b c) (hb : bt a c = bt b c) : Shr a b (c + 1) := fun i hi => by
  rcases Nat.lt_or_ge i c with q | q
  · exact h i q
  · obtain rfl : i = c := by omega
    exact hb
theorem cu_main : ∀ {l m : List Nd}, Cu l m → Apn l → m ≠ [] ∧ Apn m ∧ ovl m = ovl l ∧ (∀ (q : List Int) (k : Nat), k ≤ 256 → Beg q k l → Beg q k m) := by
  intro l m hcu
  induction hcu with
  | @one l hne =>
    intro h
    refine ⟨by simp, ⟨fun x hx => ?_, ?_⟩, rfl, fun q k hk hb x hx => ?_⟩
    · simp at hx; subst hx; exact (ov_ok h.rsn hne _ (Nat.le_refl _)).1
    · exact ovl_gd h hne
    · simp at hx; subst hx; exact beg_ovl h hne hk hb
  | @two l a b h2 ha hb iha ihb =>
    intro h
    obtain ⟨a1, a2, a3, a4⟩ := iha (h.take _)
    obtain ⟨b1, b2, b3, b4⟩ := ihb (h.drop _)
    have hr := h.rsn.ris
    have hc := hr.cl_lt h2
    obtain ⟨c, hcc⟩ : ∃ c, cl l = c := ⟨_, rfl⟩
    obtain ⟨s1, s2, s3⟩ := half_beg h h2
    obtain ⟨k1, k2⟩ := hr.cut_in h2
    rw [hcc] at s1 s2 s3 hc k1 k2 a3 a4 b3 b4
    have hsub : ∀ {x : Nd}, x ∈ l.take (cut c l) → x ∈ l := fun hx => List.mem_of_mem_take hx
    have hsub2 : ∀ {x : Nd}, x ∈ l.drop (cut c l) → x ∈ l := fun hx => List.mem_of_mem_drop hx
    have lg : ∀ x ∈ l, (c : Int) < x.n := fun x hx => by rw [← hcc]; exact h.longer h2 hx
    -- what a and b begin with
    obtain ⟨p, hp0⟩ : ∃ p ∈ l.take (cut c l), True := ⟨(l.take (cut c l))[0]'(by rw [List.length_take]; omega), List.getElem_mem _, trivial⟩
    obtain ⟨r, hr0⟩ : ∃ p ∈ l.drop (cut c l), True := ⟨(l.drop (cut c l))[0]'(by rw [List.length_drop]; omega), List.getElem_mem _, trivial⟩
    have Ba : Beg p.p (c + 1) a := a4 p.p (c + 1) (by omega) (fun x hx => ⟨shr_one (fun i hi => ((s1 x (hsub hx)).1 i hi).trans ((s1 p (hsub hp0.1)).1 i hi).symm) (by rw [s2 x hx, s2 p hp0.1]), by have := lg x (hsub hx); omega⟩)
    have Bb : Beg r.p (c + 1) b := b4 r.p (c + 1) (by omega) (fun x hx => ⟨shr_one (fun i hi => ((s1 x (hsub2 hx)).1 i hi).trans ((s1 r (hsub2 hr0.1)).1 i hi).symm) (by rw [s3 x hx, s3 r hr0.1]), by have := lg x (hsub2 hx); omega⟩)
    have za : ∀ x ∈ a, bt x.p c = 0 := fun x hx => by rw [(Ba x hx).1 c (by omega)]; exact s2 p hp0.1
    have ob : ∀ x ∈ b, bt x.p c = 1 := fun x hx => by rw [(Bb x hx).1 c (by omega)]; exact s3 r hr0.1
    have pr : ∀ i, i < c → bt p.p i = bt r.p i := fun i hi => ((s1 p (hsub hp0.1)).1 i hi).trans ((s1 r (hsub2 hr0.1)).1 i hi).symm
    have sab : ∀ x ∈ a, ∀ y ∈ b, Shr x.p y.p c := fun x hx y hy i hi => ((Ba x hx).1 i (by omega)).trans ((pr i hi).trans ((Bb y hy).1 i (by omega)).symm)
    have hap : Apn (a ++ b) := by
      refine ⟨fun x hx => ?_, apt_app a2.ap b2.ap (fun x y hx hy => ?_)⟩
      · rcases List.mem_append.1 hx with q | q
        · exact a2.ok x q
        · exact b2.ok x q
      · have mx : x ∈ a := List.mem_of_getLast? hx
        have my : y ∈ b := List.mem_of_head? hy
        have e0 := sab x mx y my
        have e1 := za x mx
        have e2 := ob y my
        have hlt : pf x.p 256 < pf y.p 256 := by
          have h1 : pf x.p (c + 1) < pf y.p (c + 1) := by simp only [pf]; rw [e0.pf, e1, e2]; omega
          rcases Nat.lt_or_ge (pf x.p 256) (pf y.p 256) with q | q
          · exact q
          · have := pf_mono q (c := c + 1) (by omega); omega
        unfold ap2
        rw [(ltb_iff (a2.ok x mx).p (b2.ok y my).p).2 hlt, Bool.true_and]
        have : hl x y.p = false := by
          unfold hl
          rw [apt_good a2.ap x mx, Bool.true_and, decide_eq_false_iff_not]
          intro g
          have g1 := (Ba x mx).2
          have g2 : Shr x.p y.p (c + 1) := (cm_ge (by omega)).1 (Nat.le_trans (show c + 1 ≤ x.n.toNat by omega) g)
          have := g2 c (by omega)
          omega
        rw [this]; rfl
    have la : 0 < a.length := List.length_pos_iff.2 a1
    have lb : 0 < b.length := List.length_pos_iff.2 b1
    have hl2 : 2 ≤ (a ++ b).length := by rw [List.length_append]; omega
    have ecl : cl (a ++ b) = c := by
      obtain ⟨x, hx⟩ : ∃ x, a[0]? = some x := ⟨a[0], List.getElem?_eq_getElem la⟩
      obtain ⟨y, hy⟩ : ∃ y, b[b.length - 1]? = some y := ⟨b[b.length - 1]'(by omega), List.getElem?_eq_getElem (by omega)⟩
      have e1 : hp (a ++ b) = x.p := hp_eq (by rw [List.getElem?_append_left la]; exact hx)
      have e2 : lp (a ++ b) = y.p := lp_eq (by rw [List.length_append, List.getElem?_append_right (by omega), show a.length + b.length - 1 - a.length = b.length - 1 by omega]; exact hy)
      unfold cl
      rw [e1, e2]
      refine cm_uniq (by omega) (sab x (List.mem_of_getElem? hx) y (List.mem_of_getElem? hy)) (fun _ => ?_)
      rw [za x (List.mem_of_getElem? hx), ob y (List.mem_of_getElem? hy)]; decide
    have ecut : cut (cl (a ++ b)) (a ++ b) = a.length := by rw [ecl]; exact cut_app za ob
    refine ⟨fun e => by rw [e] at hl2; simp at hl2, hap, ?_, fun q k hk hb' x hx => ?_⟩
    · have m1 := ovl_more hap.rsn.ris hl2
      have m2 := ovl_more hr h2
      rw [ecut, List.take_left, List.drop_left, a3, b3] at m1
      rw [hcc] at m2
      rw [m1, m2]
    · rcases List.mem_append.1 hx with g | g
      · exact a4 q k hk (fun z hz => hb' z (hsub hz)) x g
      · exact b4 q k hk (fun z hz => hb' z (hsub2 hz)) x g
/-- What is left out of a reading from above, if every leaf that is held stays by itself. -/
theorem wo_cu (hd : Nd → Bool) : ∀ (f : Nat) (l : List Nd), l.length ≤ f → Ris l → l ≠ [] → Cu l (wo hd true f l)
  | 0, l, hf, _, hne => absurd (List.length_eq_zero_iff.1 (Nat.le_zero.1 hf)) hne
  | f + 1, [], _, _, hne => absurd rfl hne
  | f + 1, x :: r, hf, h, hne => by
    simp only [wo]
    split
    · exact .one (by simp)
    · split
      · next h1 h2 => exact absurd (.inr ⟨h2, by trivial⟩) h1
      · next h1 h2 =>
        have hl2 : 2 ≤ (x :: r).length := by have := List.length_pos_iff.2 h2; simp only [List.length_cons]; omega
        obtain ⟨k1, k2⟩ := h.cut_in hl2
        refine .two hl2 (wo_cu hd f _ (by rw [List.length_take]; omega) (h.sub (List.take_sublist _ _)) ?_) (wo_cu hd f _ (by rw [List.length_drop]; omega) (h.sub (List.drop_sublist _ _)) ?_)
        · intro e; have := congrArg List.length e; rw [List.length_take] at this; simp only [List.length_nil] at this; omega
        · intro e; have := congrArg List.length e; rw [List.length_drop] at this; simp only [List.length_nil] at this; omega
theorem rt_cu {l m : List Nd} (h : Cu l m) (ha : Apn l) (hne : l ≠ []) : rt m = rt l := by
  obtain ⟨h1, -, h3, -⟩ := cu_main h ha
  unfold rt
  rw [if_neg h1, if_neg hne, h3]
/-- What is held stays only by itself. -/
theorem wo_mem {hd : Nd → Bool} : ∀ (f : Nat) (l : List Nd) (x : Nd), x ∈ wo hd true f l → hd x = true → x ∈ l
  | 0, l, x, h, _ => by cases h
  | f + 1, [], x, h, _ => by cases h
  | f + 1, y :: r, x, h, hx => by
    simp only [wo] at h
    split at h
    · next h1 =>
      simp at h; subst h
      rcases h1 with q | q
      · rw [hx] at q; cases q
      · rw [q.1]; simp [ovl_one]
    · split at h
      · cases h
      · rcases List.mem_append.1 h with q | q
        · exact List.mem_of_mem_take (wo_mem f _ x q hx)
        · exact List.mem_of_mem_drop (wo_mem f _ x q hx)
theorem wo_has {y : List Int} : ∀ (f : Nat) (l : List Nd) (x : Nd), l.length ≤ f → Ris l → x ∈ l → hl x y = true → (∀ z ∈ l, z.n = 256) → x ∈ wo (fun n => hl n y) true f l
  | 0, l, x, hf, _, hx, _, _ => by rw [List.length_eq_zero_iff.1 (Nat.le_zero.1 hf)] at hx; cases hx
  | f + 1, [], x, _, _, hx, _, _ => by cases hx
  | f + 1, z :: r, x, hf, h, hx, hh, hn => by
    by_cases hr : r = []
    · subst hr
      simp at hx; subst hx
      simp [wo, ovl_one]
    · have hl2 : 2 ≤ (z :: r).length := by have := List.length_pos_iff.2 hr; simp only [List.length_cons]; omega
      obtain ⟨k1, k2⟩ := h.cut_in hl2
      have hxy : Shr x.p y 256 := by
        unfold hl at hh
        rw [Bool.and_eq_true, decide_eq_true_iff, hn x hx] at hh
        exact (cm_ge (Nat.le_refl _)).1 hh.2
      have hc := h.cl_lt hl2
      have hov : hl (ovl (z :: r)) y = true := (hl_ovl h hl2 y).2 (fun i hi => (h.shr hl2 hx i hi).symm.trans (hxy i (by omega)))
      simp only [wo]
      rw [if_neg (by rw [hov]; rintro (q | q); · cases q
                     · exact hr q.1), if_neg hr]
      have hx' := hx
      rw [← List.take_append_drop (cut (cl (z :: r)) (z :: r)) (z :: r)] at hx'
      rcases List.mem_append.1 hx' with q | q
      · exact List.mem_append_left _ (wo_has f _ x (by rw [List.length_take]; omega) (h.sub (List.take_sublist _ _)) q hh (fun u hu => hn u (List.mem_of_mem_take hu)))
      · exact List.mem_append_right _ (wo_has f _ x (by rw [List.length_drop]; omega) (h.sub (List.drop_sublist _ _)) q hh (fun u hu => hn u (List.mem_of_mem_drop hu)))
end Go.Proofs.YtoldkelnjjphiaaDoor
/- Plain mathematics: what an opening tells. -/
namespace Go.Proofs.YtoldkelnjjphiaaDoor
open Go Go.RowKit
set_option linter.unusedSimpArgs false
set_option linter.unusedVariables false
set_option maxRecDepth 100000

theorem fnd_ok32 (r : List Int) (l : List Nd) (hk : ∀ x ∈ l, x.Ok) (y : List Int) : L32 (fnd r l y).1 := by
  unfold fnd
  split
  · split
    · split
      · exact z32_l32
      · next x hx =>
        split
        · exact (hk x (List.mem_of_find?_eq_some hx)).h
        · exact z32_l32
    · exact z32_l32
  · exact z32_l32
theorem ris_same {S : List Nd} (h : Ris S) {a b : Nd} (ha : a ∈ S) (hb : b ∈ S) (e : pf a.p 256 = pf b.p 256) : a = b := by
  obtain ⟨i, hi, rfl⟩ := List.getElem_of_mem ha
  obtain ⟨j, hj, rfl⟩ := List.getElem_of_mem hb
  rcases Nat.lt_trichotomy i j with q | q | q
  · have := h.lt (List.getElem?_eq_getElem hi) (List.getElem?_eq_getElem hj) q; omega
  · subst q; rfl
  · have := h.lt (List.getElem?_eq_getElem hj) (List.getElem?_eq_getElem hi) q; omega
theorem hl_leaf {z : Nd} (hz : z.n = 256) {y : List Int} (h : hl z y = true) : pf z.p 256 = pf y 256 := by
  unfold hl at h
  rw [Bool.and_eq_true, decide_eq_true_iff, hz] at h
  exact ((cm_ge (Nat.le_refl _)).1 h.2).pf
theorem hl_self {z : Nd} (hg : gd z = true) (y : List Int) (e : z.p = y) (hz : z.n = 256) : hl z y = true := by
  unfold hl
  rw [hg, Bool.true_and, decide_eq_true_iff, hz]
  exact (cm_ge (Nat.le_refl _)).2 (fun i _ => by rw [e])
/-- What the opening of leaves tells under their root. -/
theorem back_core {Q : List Lf} (hk : ∀ x ∈ Q, x.Ok) (ho : okl Q) {y : List Int} (hy : L32 y) :
    fnd (rt (so Q)) (opl y (so Q)) y = match (opl y (so Q)).find? (fun x => hl x y) with | none => (z32, false, 0) | some x => if x.n = 256 then (x.h, true, 0) else (z32, false, 2) := by
  have ha : apt (opl y (so Q)) = true ∧ rt (opl y (so Q)) = rt (so Q) := by
    by_cases h0 : so Q = []
    · rw [h0, opl_nil]; exact ⟨rfl, rfl⟩
    · have hap : Apn (so Q) := ⟨so_ok hk ho, (so_spec ho).2⟩
      have hcu := wo_cu (fun n => hl n y) (so Q).length (so Q) (Nat.le_refl _) hap.rsn.ris h0
      rw [wo_opl y _ _ hap.rsn.ris (Nat.le_refl _)] at hcu
      exact ⟨(cu_main hcu hap).2.1.ap, rt_cu hcu hap h0⟩
  unfold fnd
  rw [if_pos ha.1, if_pos ha.2]
  cases List.find? (fun x => hl x y) (opl y (so Q)) <;> rfl
theorem back_mem {Q : List Lf} (hk : ∀ x ∈ Q, x.Ok) (ho : okl Q) {y : List Int} (hy : L32 y) {z : Nd} (hz : z ∈ opl y (so Q)) (hh : hl z y = true) : ∃ x ∈ Q, z = ln x ∧ x.p = y := by
  have hap : Apn (so Q) := ⟨so_ok hk ho, (so_spec ho).2⟩
  rw [← wo_opl y _ _ hap.rsn.ris (Nat.le_refl _)] at hz
  have hm := wo_mem _ _ z hz hh
  obtain ⟨x, hx, rfl⟩ := List.mem_map.1 ((so_spec ho).1.mem_iff.1 hm)
  exact ⟨x, hx, rfl, (hk x hx).p.ext hy (hl_leaf (z := ln x) rfl hh)⟩
theorem back_yes {Q : List Lf} (hk : ∀ x ∈ Q, x.Ok) (ho : okl Q) {y : List Int} (hy : L32 y) {x : Lf} (hx : x ∈ Q) (e : x.p = y) : fnd (rt (so Q)) (opl y (so Q)) y = ((ln x).h, true, 0) := by
  have hap : Apn (so Q) := ⟨so_ok hk ho, (so_spec ho).2⟩
  have hms : ln x ∈ so Q := (so_spec ho).1.mem_iff.2 (List.mem_map_of_mem hx)
  have hh : hl (ln x) y = true := hl_self (ln_gd (hk x hx)) y e rfl
  have hin := wo_has (so Q).length (so Q) (ln x) (Nat.le_refl _) hap.rsn.ris hms hh (fun z hz => (map_ok hk (so_spec ho).1 z hz).2.2)
  rw [wo_opl y _ _ hap.rsn.ris (Nat.le_refl _)] at hin
  rw [back_core hk ho hy]
  cases hf : (opl y (so Q)).find? (fun x => hl x y) with
  | none => exact absurd hh (by have := List.find?_eq_none.1 hf _ hin; simpa using this)
  | some z =>
    have hz := List.mem_of_find?_eq_some hf
    have hzh : hl z y = true := List.find?_some (p := fun x => hl x y) hf
    obtain ⟨x', hx', rfl, e'⟩ := back_mem hk ho hy hz hzh
    have hms' : ln x' ∈ so Q := (so_spec ho).1.mem_iff.2 (List.mem_map_of_mem hx')
    have : ln x' = ln x := ris_same hap.rsn.ris hms' hms (show pf x'.p 256 = pf x.p 256 by rw [e, e'])
    rw [this]
    rfl
theorem back_no {Q : List Lf} (hk : ∀ x ∈ Q, x.Ok) (ho : okl Q) {y : List Int} (hy : L32 y) (hn : ∀ x ∈ Q, x.p ≠ y) : fnd (rt (so Q)) (opl y (so Q)) y = (z32, false, 0) := by
  rw [back_core hk ho hy]
  cases hf : (opl y (so Q)).find? (fun x => hl x y) with
  | none => rfl
  | some z =>
    obtain ⟨x', hx', -, e'⟩ := back_mem hk ho hy (List.mem_of_find?_eq_some hf) (List.find?_some (p := fun x => hl x y) hf)
    exact absurd e' (hn x' hx')
/-- An aggregate of nothing given, built behind a guard. -/
theorem wp_build0g {P : Program} {ops : Array Oper} {rest : List Oper} {o : Oper} {a : Act} {w : World} {Q : Exit → Act → World → Prop} (t : TypeId) (ho : o.op = .build t #[]) (hw : Region.wanted o (yielded ops a.tmps) = true) (cells : Array Value)
    (hr : (Instr.build t #[]).run P w = .ok (.agg cells) w) (h : wpList P ops Q rest (a.put o.dst (.agg cells)) w) : wpList P ops Q (o :: rest) a w := by
  unfold wpList
  rw [if_pos hw]
  refine .inl ?_
  unfold Oper.wp execOp
  simp only [ho, Sem.run_bind, List.map_toArray, List.map_nil, hr, Result.andThen_ok, Sem.run_pure]
  exact h
end Go.Proofs.YtoldkelnjjphiaaDoor
