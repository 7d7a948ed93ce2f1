/- Plain mathematics: nodes stand for what they are over. -/
import Derived.Test.YtpojalbpekbfdabDoorTrsA
import Derived.Test.YtpojalbpekbfdabDoorTrjD
namespace Go.Proofs.YtpojalbpekbfdabDoor
open Go Go.RowKit
set_option linter.unusedSimpArgs false
set_option linter.unusedVariables false
set_option maxRecDepth 100000

/-- Some nodes put under the nodes over them, along the tree. -/
inductive Cu : List Nd → List Nd → Prop
  | one {l : List Nd} (h : l ≠ []) : Cu l [ovl l]
  | two {l a b : List Nd} (h : 2 ≤ l.length) (ha : Cu (l.take (cut (cl l) l)) a) (hb : Cu (l.drop (cut (cl l) l)) b) : Cu l (a ++ b)
/-- Good nodes that are apart. -/
structure Apn (l : List Nd) : Prop where
  ok : ∀ x ∈ l, x.Ok
  ap : apt l = true
theorem Apn.rsn {l : List Nd} (h : Apn l) : Rsn l := apt_rsn h.ok h.ap
theorem apt_take : ∀ (l : List Nd) (k : Nat), apt l = true → apt (l.take k) = true
  | [], _, _ => by simp [apt]
  | _ :: _, 0, _ => rfl
  | [a], k + 1, h => by simpa using h
  | a :: b :: r, 1, h => by simp only [apt, Bool.and_eq_true] at h; exact h.1
  | a :: b :: r, k + 2, h => by
    simp only [apt, Bool.and_eq_true] at h
    have ih := apt_take (b :: r) (k + 1) h.2.2
    show apt (a :: b :: r.take k) = true
    simp only [apt, Bool.and_eq_true]
    exact ⟨h.1, h.2.1, ih⟩
theorem apt_drop : ∀ (l : List Nd) (k : Nat), apt l = true → apt (l.drop k) = true
  | l, 0, h => h
  | [], _ + 1, _ => rfl
  | [a], k + 1, _ => by simp [apt]
  | a :: b :: r, k + 1, h => by simp only [apt, Bool.and_eq_true] at h; exact apt_drop (b :: r) k h.2.2
theorem Apn.take {l : List Nd} (h : Apn l) (k : Nat) : Apn (l.take k) := ⟨fun x hx => h.ok x (List.mem_of_mem_take hx), apt_take l k h.ap⟩
theorem Apn.drop {l : List Nd} (h : Apn l) (k : Nat) : Apn (l.drop k) := ⟨fun x hx => h.ok x (List.mem_of_mem_drop hx), apt_drop l k h.ap⟩
theorem apt_next : ∀ {l : List Nd}, apt l = true → ∀ (i : Nat) (x y : Nd), l[i]? = some x → l[i + 1]? = some y → ap2 x y = true
  | [], _, i, x, y, h, _ => by simp at h
  | [a], _, i, x, y, _, h => by simp at h
  | a :: b :: r, h, 0, x, y, hx, hy => by
    simp only [apt, Bool.and_eq_true] at h
    simp at hx hy; subst hx hy; exact h.2.1
  | a :: b :: r, h, i + 1, x, y, hx, hy => by
    simp only [apt, Bool.and_eq_true] at h
    exact apt_next h.2.2 i x y (by simpa using hx) (by simpa using hy)
/-- Of two or more each has more bits than all have in common. -/
theorem Apn.longer {l : List Nd} (h : Apn l) (h2 : 2 ≤ l.length) {x : Nd} (hx : x ∈ l) : (cl l : Int) < x.n := by
  obtain ⟨i, hi, rfl⟩ := List.getElem_of_mem hx
  have hr := h.rsn.ris
  have hc := hr.cl_lt h2
  obtain ⟨g1, g2, g3⟩ := gd_iff.1 (apt_good h.ap _ hx)
  have sh : ∀ j (hj : j < l.length), Shr l[j].p (hp l) (cl l) := fun j hj => hr.shr h2 (List.getElem_mem hj)
  rcases Int.lt_or_le (cl l : Int) (l[i]).n with q | q
  · exact q
  · exfalso
    have hn : (l[i]).n.toNat ≤ cl l := by omega
    rcases Nat.lt_or_ge (i + 1) l.length with q1 | q1
    · have := apt_next h.ap i _ _ (List.getElem?_eq_getElem hi) (List.getElem?_eq_getElem q1)
      unfold ap2 at this
      rw [Bool.and_eq_true] at this
      have hh : hl l[i] l[i + 1].p = true := by
        unfold hl
        rw [apt_good h.ap _ hx, Bool.true_and, decide_eq_true_iff, cm_ge (by omega)]
        intro k hk
        rw [sh i hi k (by omega), sh (i + 1) q1 k (by omega)]
      rw [hh] at this
      simp at this
    · have h3 : 0 < i := by omega
      have hlt := hr.lt (List.getElem?_eq_getElem (show i - 1 < l.length by omega)) (List.getElem?_eq_getElem hi) (by omega)
      have := good_least (a := l[i - 1].p) (h.ok _ hx).p (by omega) g3 (fun k hk => by rw [sh (i - 1) (by omega) k (by omega), sh i hi k (by omega)])
      omega
theorem apt_app : ∀ {a b : List Nd}, apt a = true → apt b = true → (∀ x y, a.getLast? = some x → b.head? = some y → ap2 x y = true) → apt (a ++ b) = true
  | [], b, _, hb, _ => hb
  | [x], [], ha, _, _ => ha
  | [x], y :: r, ha, hb, h => by
    show apt (x :: y :: r) = true
    simp only [apt, Bool.and_eq_true]
    exact ⟨ha, h x y rfl rfl, hb⟩
  | x :: z :: r, b, ha, hb, h => by
    simp only [apt, Bool.and_eq_true] at ha
    have ih := apt_app (a := z :: r) ha.2.2 hb (fun u v hu hv => h u v (by simpa using hu) hv)
    show apt (x :: z :: (r ++ b)) = true
    simp only [apt, Bool.and_eq_true]
    exact ⟨ha.1, ha.2.1, ih⟩
theorem cut_app {c : Nat} : ∀ {a b : List Nd}, (∀ x ∈ a, bt x.p c = 0) → (∀ x ∈ b, bt x.p c = 1) → cut c (a ++ b) = a.length
  | [], [], _, _ => rfl
  | [], y :: r, _, h => by
    show cut c (y :: r) = 0
    simp only [cut]; rw [if_neg (by have := h y (by simp); omega)]
  | x :: a, b, h1, h2 => by
    show cut c (x :: (a ++ b)) = a.length + 1
    simp only [cut]
    rw [if_pos (h1 x (by simp)), cut_app (fun z hz => h1 z (List.mem_cons_of_mem _ hz)) h2]
/-- All begin with the first k bits of q. -/
def Beg (q : List Int) (k : Nat) (l : List Nd) : Prop := ∀ x ∈ l, Shr x.p q k ∧ (k : Int) ≤ x.n
theorem beg_ovl {l : List Nd} (h : Apn l) (hne : l ≠ []) {q : List Int} {k : Nat} (hk : k ≤ 256) (hb : Beg q k l) : Shr (ovl l).p q k ∧ (k : Int) ≤ (ovl l).n := by
  by_cases h2 : 2 ≤ l.length
  · obtain ⟨e1, e2⟩ := ovl_two h.rsn.ris h2
    obtain ⟨a, ha⟩ : ∃ x, l[0]? = some x := ⟨l[0]'(by omega), List.getElem?_eq_getElem (by omega)⟩
    obtain ⟨b, hb'⟩ : ∃ x, l[l.length - 1]? = some x := ⟨l[l.length - 1]'(by omega), List.getElem?_eq_getElem (by omega)⟩
    have sa := (hb a (List.mem_of_getElem? ha)).1
    have sb := (hb b (List.mem_of_getElem? hb')).1
    have hkc : k ≤ cl l := by
      unfold cl; rw [hp_eq ha, lp_eq hb', cm_ge hk]
      exact fun i hi => (sa i hi).trans (sb i hi).symm
    have hc := h.rsn.ris.cl_lt h2
    rw [e1, e2]
    refine ⟨fun i hi => ?_, by omega⟩
    rw [bt_fb (hp_l32 h.rsn.ris hne) _ i (by omega), if_pos (by omega), hp_eq ha]
    exact sa i hi
  · cases l with
    | nil => exact absurd rfl hne
    | cons x r =>
      have : r = [] := List.length_eq_zero_iff.1 (by simp only [List.length_cons] at h2; omega)
      subst this
      exact hb x (by simp)
theorem ovl_gd {l : List Nd} (h : Apn l) (hne : l ≠ []) : gd (ovl l) = true := by
  by_cases h2 : 2 ≤ l.length
  · obtain ⟨e1, e2⟩ := ovl_two h.rsn.ris h2
    have hc := h.rsn.ris.cl_lt h2
    exact gd_iff.2 ⟨by rw [e1]; omega, by rw [e1]; omega, by rw [e1, e2, Int.toNat_natCast]; exact fb_fb (hp_l32 h.rsn.ris hne) _⟩
  · cases l with
    | nil => exact absurd rfl hne
    | cons x r =>
      have : r = [] := List.length_eq_zero_iff.1 (by simp only [List.length_cons] at h2; omega)
      subst this
      exact apt_good h.ap x (by simp)
/-- The two halves of nodes begin apart. -/
theorem half_beg {l : List Nd} (h : Apn l) (h2 : 2 ≤ l.length) : Beg (hp l) (cl l) l ∧ (∀ x ∈ l.take (cut (cl l) l), bt x.p (cl l) = 0) ∧ (∀ x ∈ l.drop (cut (cl l) l), bt x.p (cl l) = 1) :=
  ⟨fun x hx => ⟨h.rsn.ris.shr h2 hx, Int.le_of_lt (h.longer h2 hx)⟩, fun x hx => mem_lo hx, fun x hx => mem_hi h.rsn.ris h2 hx⟩
theorem shr_one {a b : List Int} {c : Nat} (h : Shr a b c) (hb : bt a c = bt b c) : Shr a b (c + 1) := fun i hi => by
  rcases Nat.lt_or_ge i c with q | q
  · exact h i q
  · obtain rfl : i = c := by omega
    exact hb
theorem cu_main : ∀ {l m : List Nd}, Cu l m → Apn l → m ≠ [] ∧ Apn m ∧ ovl m = ovl l ∧ (∀ (q : List Int) (k : Nat), k ≤ 256 → Beg q k l → Beg q k m) := by
  intro l m hcu
  induction hcu with
  | @one l hne =>
    intro h
    refine ⟨by simp, ⟨fun x hx => ?_, ?_⟩, rfl, fun q k hk hb x hx => ?_⟩
    · simp at hx; subst hx; exact (ov_ok h.rsn hne _ (Nat.le_refl _)).1
    · exact ovl_gd h hne
    · simp at hx; subst hx; exact beg_ovl h hne hk hb
  | @two l a b h2 ha hb iha ihb =>
    intro h
    obtain ⟨a1, a2, a3, a4⟩ := iha (h.take _)
    obtain ⟨b1, b2, b3, b4⟩ := ihb (h.drop _)
    have hr := h.rsn.ris
    have hc := hr.cl_lt h2
    obtain ⟨c, hcc⟩ : ∃ c, cl l = c := ⟨_, rfl⟩
    obtain ⟨s1, s2, s3⟩ := half_beg h h2
    obtain ⟨k1, k2⟩ := hr.cut_in h2
    rw [hcc] at s1 s2 s3 hc k1 k2 a3 a4 b3 b4
    have hsub : ∀ {x : Nd}, x ∈ l.take (cut c l) → x ∈ l := fun hx => List.mem_of_mem_take hx
    have hsub2 : ∀ {x : Nd}, x ∈ l.drop (cut c l) → x ∈ l := fun hx => List.mem_of_mem_drop hx
    have lg : ∀ x ∈ l, (c : Int) < x.n := fun x hx => by rw [← hcc]; exact h.longer h2 hx
    -- what a and b begin with
    obtain ⟨p, hp0⟩ : ∃ p ∈ l.take (cut c l), True := ⟨(l.take (cut c l))[0]'(by rw [List.length_take]; omega), List.getElem_mem _, trivial⟩
    obtain ⟨r, hr0⟩ : ∃ p ∈ l.drop (cut c l), True := ⟨(l.drop (cut c l))[0]'(by rw [List.length_drop]; omega), List.getElem_mem _, trivial⟩
    have Ba : Beg p.p (c + 1) a := a4 p.p (c + 1) (by omega) (fun x hx => ⟨shr_one (fun i hi => ((s1 x (hsub hx)).1 i hi).trans ((s1 p (hsub hp0.1)).1 i hi).symm) (by rw [s2 x hx, s2 p hp0.1]), by have := lg x (hsub hx); omega⟩)
    have Bb : Beg r.p (c + 1) b := b4 r.p (c + 1) (by omega) (fun x hx => ⟨shr_one (fun i hi => ((s1 x (hsub2 hx)).1 i hi).trans ((s1 r (hsub2 hr0.1)).1 i hi).symm) (by rw [s3 x hx, s3 r hr0.1]), by have := lg x (hsub2 hx); omega⟩)
    have za : ∀ x ∈ a, bt x.p c = 0 := fun x hx => by rw [(Ba x hx).1 c (by omega)]; exact s2 p hp0.1
    have ob : ∀ x ∈ b, bt x.p c = 1 := fun x hx => by rw [(Bb x hx).1 c (by omega)]; exact s3 r hr0.1
    have pr : ∀ i, i < c → bt p.p i = bt r.p i := fun i hi => ((s1 p (hsub hp0.1)).1 i hi).trans ((s1 r (hsub2 hr0.1)).1 i hi).symm
    have sab : ∀ x ∈ a, ∀ y ∈ b, Shr x.p y.p c := fun x hx y hy i hi => ((Ba x hx).1 i (by omega)).trans ((pr i hi).trans ((Bb y hy).1 i (by omega)).symm)
    have hap : Apn (a ++ b) := by
      refine ⟨fun x hx => ?_, apt_app a2.ap b2.ap (fun x y hx hy => ?_)⟩
      · rcases List.mem_append.1 hx with q | q
        · exact a2.ok x q
        · exact b2.ok x q
      · have mx : x ∈ a := List.mem_of_getLast? hx
        have my : y ∈ b := List.mem_of_head? hy
        have e0 := sab x mx y my
        have e1 := za x mx
        have e2 := ob y my
        have hlt : pf x.p 256 < pf y.p 256 := by
          have h1 : pf x.p (c + 1) < pf y.p (c + 1) := by simp only [pf]; rw [e0.pf, e1, e2]; omega
          rcases Nat.lt_or_ge (pf x.p 256) (pf y.p 256) with q | q
          · exact q
          · have := pf_mono q (c := c + 1) (by omega); omega
        unfold ap2
        rw [(ltb_iff (a2.ok x mx).p (b2.ok y my).p).2 hlt, Bool.true_and]
        have : hl x y.p = false := by
          unfold hl
          rw [apt_good a2.ap x mx, Bool.true_and, decide_eq_false_iff_not]
          intro g
          have g1 := (Ba x mx).2
          have g2 : Shr x.p y.p (c + 1) := (cm_ge (by omega)).1 (Nat.le_trans (show c + 1 ≤ x.n.toNat by omega) g)
          have := g2 c (by omega)
          omega
        rw [this]; rfl
    have la : 0 < a.length := List.length_pos_iff.2 a1
    have lb : 0 < b.length := List.length_pos_iff.2 b1
    have hl2 : 2 ≤ (a ++ b).length := by rw [List.length_append]; omega
    have ecl : cl (a ++ b) = c := by
      obtain ⟨x, hx⟩ : ∃ x, a[0]? = some x := ⟨a[0], List.getElem?_eq_getElem la⟩
      obtain ⟨y, hy⟩ : ∃ y, b[b.length - 1]? = some y := ⟨b[b.length - 1]'(by omega), List.getElem?_eq_getElem (by omega)⟩
      have e1 : hp (a ++ b) = x.p := hp_eq (by rw [List.getElem?_append_left la]; exact hx)
      have e2 : lp (a ++ b) = y.p := lp_eq (by rw [List.length_append, List.getElem?_append_right (by omega), show a.length + b.length - 1 - a.length = b.length - 1 by omega]; exact hy)
      unfold cl
      rw [e1, e2]
      refine cm_uniq (by omega) (sab x (List.mem_of_getElem? hx) y (List.mem_of_getElem? hy)) (fun _ => ?_)
      rw [za x (List.mem_of_getElem? hx), ob y (List.mem_of_getElem? hy)]; decide
    have ecut : cut (cl (a ++ b)) (a ++ b) = a.length := by rw [ecl]; exact cut_app za ob
    refine ⟨fun e => by rw [e] at hl2; simp at hl2, hap, ?_, fun q k hk hb' x hx => ?_⟩
    · have m1 := ovl_more hap.rsn.ris hl2
      have m2 := ovl_more hr h2
      rw [ecut, List.take_left, List.drop_left, a3, b3] at m1
      rw [hcc] at m2
      rw [m1, m2]
    · rcases List.mem_append.1 hx with g | g
      · exact a4 q k hk (fun z hz => hb' z (hsub hz)) x g
      · exact b4 q k hk (fun z hz => hb' z (hsub2 hz)) x g
/-- What is left out of a reading from above, if every leaf that is held stays by itself. -/
theorem wo_cu (hd : Nd → Bool) : ∀ (f : Nat) (l : List Nd), l.length ≤ f → Ris l → l ≠ [] → Cu l (wo hd true f l)
  | 0, l, hf, _, hne => absurd (List.length_eq_zero_iff.1 (Nat.le_zero.1 hf)) hne
  | f + 1, [], _, _, hne => absurd rfl hne
  | f + 1, x :: r, hf, h, hne => by
    simp only [wo]
    split
    · exact .one (by simp)
    · split
      · next h1 h2 => exact absurd (.inr ⟨h2, by trivial⟩) h1
      · next h1 h2 =>
        have hl2 : 2 ≤ (x :: r).length := by have := List.length_pos_iff.2 h2; simp only [List.length_cons]; omega
        obtain ⟨k1, k2⟩ := h.cut_in hl2
        refine .two hl2 (wo_cu hd f _ (by rw [List.length_take]; omega) (h.sub (List.take_sublist _ _)) ?_) (wo_cu hd f _ (by rw [List.length_drop]; omega) (h.sub (List.drop_sublist _ _)) ?_)
        · intro e; have := congrArg List.length e; rw [List.length_take] at this; simp only [List.length_nil] at this; omega
        · intro e; have := congrArg List.length e; rw [List.length_drop] at this; simp only [List.length_nil] at this; omega
theorem rt_cu {l m : List Nd} (h : Cu l m) (ha : Apn l) (hne : l ≠ []) : rt m = rt l := by
  obtain ⟨h1, -, h3, -⟩ := cu_main h ha
  unfold rt
  rw [if_neg h1, if_neg hne, h3]
/-- What is held stays only by itself. -/
theorem wo_mem {hd : Nd → Bool} : ∀ (f : Nat) (l : List Nd) (x : Nd), x ∈ wo hd true f l → hd x = true → x ∈ l
  | 0, l, x, h, _ => by cases h
  | f + 1, [], x, h, _ => by cases h
  | f + 1, y :: r, x, h, hx => by
    simp only [wo] at h
    split at h
    · next h1 =>
      simp at h; subst h
      rcases h1 with q | q
      · rw [hx] at q; cases q
      · rw [q.1]; simp [ovl_one]
    · split at h
      · cases h
      · rcases List.mem_append.1 h with q | q
        · exact List.mem_of_mem_take (wo_mem f _ x q hx)
        · exact List.mem_of_mem_drop (wo_mem f _ x q hx)
theorem wo_has {y : List Int} : ∀ (f : Nat) (l : List Nd) (x : Nd), l.length ≤ f → Ris l → x ∈ l → hl x y = true → (∀ z ∈ l, z.n = 256) → x ∈ wo (fun n => hl n y) true f l
  | 0, l, x, hf, _, hx, _, _ => by rw [List.length_eq_zero_iff.1 (Nat.le_zero.1 hf)] at hx; cases hx
  | f + 1, [], x, _, _, hx, _, _ => by cases hx
  | f + 1, z :: r, x, hf, h, hx, hh, hn => by
    by_cases hr : r = []
    · subst hr
      simp at hx; subst hx
      simp [wo, ovl_one]
    · have hl2 : 2 ≤ (z :: r).length := by have := List.length_pos_iff.2 hr; simp only [List.length_cons]; omega
      obtain ⟨k1, k2⟩ := h.cut_in hl2
      have hxy : Shr x.p y 256 := by
        unfold hl at hh
        rw [Bool.and_eq_true, decide_eq_true_iff, hn x hx] at hh
        exact (cm_ge (Nat.le_refl _)).1 hh.2
      have hc := h.cl_lt hl2
      have hov : hl (ovl (z :: r)) y = true := (hl_ovl h hl2 y).2 (fun i hi => (h.shr hl2 hx i hi).symm.trans (hxy i (by omega)))
      simp only [wo]
      rw [if_neg (by rw [hov]; rintro (q | q); · cases q
                     · exact hr q.1), if_neg hr]
      have hx' := hx
      rw [← List.take_append_drop (cut (cl (z :: r)) (z :: r)) (z :: r)] at hx'
      rcases List.mem_append.1 hx' with q | q
      · exact List.mem_append_left _ (wo_has f _ x (by rw [List.length_take]; omega) (h.sub (List.take_sublist _ _)) q hh (fun u hu => hn u (List.mem_of_mem_take hu)))
      · exact List.mem_append_right _ (wo_has f _ x (by rw [List.length_drop]; omega) (h.sub (List.drop_sublist _ _)) q hh (fun u hu => hn u (List.mem_of_mem_drop hu)))
end Go.Proofs.YtpojalbpekbfdabDoor
/- Plain mathematics: the first nodes put under the node over them. -/
namespace Go.Proofs.YtpojalbpekbfdabDoor
open Go Go.RowKit
set_option linter.unusedSimpArgs false
set_option linter.unusedVariables false
set_option maxRecDepth 100000

/-- A tree's nodes are a cut of it. -/
theorem cu_id : ∀ (n : Nat) (l : List Nd), l.length ≤ n → Ris l → l ≠ [] → Cu l l
  | 0, l, hn, _, hne => absurd (List.length_eq_zero_iff.1 (Nat.le_zero.1 hn)) hne
  | n + 1, [], _, _, hne => absurd rfl hne
  | n + 1, [x], _, _, _ => by have := Cu.one (l := [x]) (by simp); rwa [ovl_one] at this
  | n + 1, x :: y :: r, hn, h, _ => by
    have h2 : 2 ≤ (x :: y :: r).length := by simp
    obtain ⟨k1, k2⟩ := h.cut_in h2
    have := Cu.two h2 (cu_id n _ (by rw [List.length_take]; omega) (h.sub (List.take_sublist _ _)) (fun e => by have := congrArg List.length e; rw [List.length_take] at this; simp only [List.length_nil] at this; omega))
      (cu_id n _ (by rw [List.length_drop]; omega) (h.sub (List.drop_sublist _ _)) (fun e => by have := congrArg List.length e; rw [List.length_drop] at this; simp only [List.length_nil] at this; omega))
    rwa [List.take_append_drop] at this
/-- Does a node begin with the first k bits of q? -/
def bgn (q : List Int) (k : Nat) (x : Nd) : Bool := decide (k ≤ cm x.p q 256)
theorem bgn_iff {q : List Int} {k : Nat} (hk : k ≤ 256) {x : Nd} : bgn q k x = true ↔ Shr x.p q k := by
  unfold bgn; rw [decide_eq_true_iff, cm_ge hk]
/-- Those that begin as the first does, put under the node over them, and the others. -/
theorem cu_part : ∀ (n : Nat) (l : List Nd), l.length ≤ n → Ris l → l ≠ [] → ∀ k, k ≤ 256 → l.filter (bgn (hp l) k) ≠ [] ∧ Cu l (ovl (l.filter (bgn (hp l) k)) :: l.filter (fun x => !bgn (hp l) k x))
  | 0, l, hn, _, hne, _, _ => absurd (List.length_eq_zero_iff.1 (Nat.le_zero.1 hn)) hne
  | n + 1, l, hn, h, hne, k, hk => by
    obtain ⟨a, ha⟩ : ∃ x, l[0]? = some x := ⟨l[0]'(List.length_pos_iff.2 hne), List.getElem?_eq_getElem (List.length_pos_iff.2 hne)⟩
    have hself : bgn (hp l) k a = true := (bgn_iff hk).2 (by rw [hp_eq ha]; exact fun i _ => rfl)
    have hne2 : l.filter (bgn (hp l) k) ≠ [] := fun e => by
      have : a ∈ l.filter (bgn (hp l) k) := List.mem_filter.2 ⟨List.mem_of_getElem? ha, hself⟩
      rw [e] at this; cases this
    refine ⟨hne2, ?_⟩
    by_cases hall : ∀ x ∈ l, bgn (hp l) k x = true
    · have e1 : l.filter (bgn (hp l) k) = l := List.filter_eq_self.2 hall
      have e2 : l.filter (fun x => !bgn (hp l) k x) = [] := List.filter_eq_nil_iff.2 (fun x hx => by rw [hall x hx]; decide)
      rw [e1, e2]
      exact .one hne
    · have h2 : 2 ≤ l.length := by
        rcases Nat.lt_or_ge l.length 2 with q | q
        · exfalso
          refine hall (fun x hx => ?_)
          obtain ⟨i, hi, rfl⟩ := List.getElem_of_mem hx
          obtain rfl : i = 0 := by omega
          have : a = l[0] := by rw [List.getElem?_eq_getElem hi] at ha; exact (Option.some.inj ha).symm
          rw [← this]; exact hself
        · exact q
      have hkc : cl l < k := by
        rcases Nat.lt_or_ge (cl l) k with q | q
        · exact q
        · exact absurd (fun x hx => (bgn_iff hk).2 (fun i hi => h.shr h2 hx i (by omega))) hall
      have hc := h.cl_lt h2
      obtain ⟨k1, k2⟩ := h.cut_in h2
      obtain ⟨A, hA⟩ : ∃ A, l.take (cut (cl l) l) = A := ⟨_, rfl⟩
      obtain ⟨B, hB⟩ : ∃ B, l.drop (cut (cl l) l) = B := ⟨_, rfl⟩
      have hl : l = A ++ B := by rw [← hA, ← hB, List.take_append_drop]
      have rA : Ris A := by rw [← hA]; exact h.sub (List.take_sublist _ _)
      have rB : Ris B := by rw [← hB]; exact h.sub (List.drop_sublist _ _)
      have lA : A.length = cut (cl l) l := by rw [← hA, List.length_take]; omega
      have lB : B.length = l.length - cut (cl l) l := by rw [← hB, List.length_drop]
      have nA : A ≠ [] := fun e => by rw [e] at lA; simp at lA; omega
      have nB : B ≠ [] := fun e => by rw [e] at lB; simp at lB; omega
      have hpA : hp A = hp l := by
        rw [hp_eq ha]
        refine hp_eq ?_
        rw [← hA, get_take (by omega)]; exact ha
      have hno : ∀ x ∈ B, bgn (hp l) k x = false := fun x hx => by
        cases hb : bgn (hp l) k x with
        | false => rfl
        | true =>
          have h1 := (bgn_iff hk).1 hb (cl l) hkc
          have h3 := mem_hi h h2 (by rw [hB]; exact hx)
          have h4 := (h.ends h2).1
          omega
      obtain ⟨i1, i2⟩ := cu_part n A (by omega) rA nA k hk
      rw [hpA] at i1 i2
      have g1 : ∀ p : Nd → Bool, (∀ x ∈ B, p x = false) → l.filter p = A.filter p := fun p q => by
        have e : B.filter p = [] := List.filter_eq_nil_iff.2 (fun x hx => by rw [q x hx]; decide)
        rw [hl, List.filter_append, e, List.append_nil]
      have g2 : ∀ p : Nd → Bool, (∀ x ∈ B, p x = false) → l.filter (fun x => !p x) = A.filter (fun x => !p x) ++ B := fun p q => by
        have e : B.filter (fun x => !p x) = B := List.filter_eq_self.2 (fun x hx => by rw [q x hx]; rfl)
        rw [hl, List.filter_append, e]
      have f1 := g1 _ hno
      have f2 := g2 _ hno
      rw [f1, f2]
      have := Cu.two h2 (by rw [hA]; exact i2) (by rw [hB]; exact cu_id _ B (Nat.le_refl _) rB nB)
      exact this
end Go.Proofs.YtpojalbpekbfdabDoor
