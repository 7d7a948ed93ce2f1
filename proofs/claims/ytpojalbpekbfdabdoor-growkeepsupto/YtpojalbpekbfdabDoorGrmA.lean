/- Plain mathematics: what stays of a tree where leaves are added. -/
import Derived.Test.YtpojalbpekbfdabDoorTrmD
import Derived.Test.YtpojalbpekbfdabDoorTrwA
import Derived.Test.YtpojalbpekbfdabDoorTrmB
namespace Go.Proofs.YtpojalbpekbfdabDoor
open Go Go.RowKit
set_option linter.unusedSimpArgs false
set_option linter.unusedVariables false
set_option maxRecDepth 100000

/-- What stays of the old ones where fresh ones are added, bit by bit from c on. -/
def st : Nat → Nat → List Nd → List Nd → List Nd
  | 0, _, old, fresh => if old.isEmpty then [] else if fresh.isEmpty then [ovl old] else []
  | f + 1, c, old, fresh => if old.isEmpty then [] else if fresh.isEmpty then [ovl old] else st f (c + 1) (old.take (cut c old)) (fresh.take (cut c fresh)) ++ st f (c + 1) (old.drop (cut c old)) (fresh.drop (cut c fresh))
theorem st_nil (f c : Nat) (fresh : List Nd) : st f c [] fresh = [] := by cases f <;> rfl
theorem st_one (f c : Nat) {old : List Nd} (h : old ≠ []) : st f c old [] = [ovl old] := by
  have : old.isEmpty = false := by cases old with | nil => exact absurd rfl h | cons => rfl
  cases f <;> simp [st, this]
theorem st_more (f c : Nat) {old fresh : List Nd} (h : old ≠ []) (h' : fresh ≠ []) : st (f + 1) c old fresh = st f (c + 1) (old.take (cut c old)) (fresh.take (cut c fresh)) ++ st f (c + 1) (old.drop (cut c old)) (fresh.drop (cut c fresh)) := by
  have e1 : old.isEmpty = false := by cases old with | nil => exact absurd rfl h | cons => rfl
  have e2 : fresh.isEmpty = false := by cases fresh with | nil => exact absurd rfl h' | cons => rfl
  simp [st, e1, e2]
theorem hl_beg {n : Nd} {y : List Int} {k : Nat} (hk : k ≤ 256) (hn : (k : Int) ≤ n.n) (h : hl n y = true) : Shr n.p y k := by
  unfold hl at h
  rw [Bool.and_eq_true, decide_eq_true_iff] at h
  exact (cm_ge hk).1 (by omega)
theorem wo_beg {hd hd' : Nd → Bool} {own : Bool} {q : List Int} {k : Nat} (hk : k ≤ 256) (hh : ∀ n : Nd, Shr n.p q k → (k : Int) ≤ n.n → hd n = hd' n) : ∀ (f : Nat) (l : List Nd), Apn l → Beg q k l → wo hd own f l = wo hd' own f l
  | 0, _, _, _ => rfl
  | f + 1, [], _, _ => rfl
  | f + 1, x :: r, ha, hb => by
    obtain ⟨b1, b2⟩ := beg_ovl ha (by simp) hk hb
    simp only [wo]
    rw [hh _ b1 b2, wo_beg hk hh f _ (ha.take _) (fun z hz => hb z (List.mem_of_mem_take hz)), wo_beg hk hh f _ (ha.drop _) (fun z hz => hb z (List.mem_of_mem_drop hz))]
theorem wo_noown {hd : Nd → Bool} : ∀ (f : Nat) (l : List Nd), (∀ x ∈ l, hd x = false) → wo hd false f l = wo hd true f l
  | 0, _, _ => rfl
  | f + 1, [], _ => rfl
  | f + 1, x :: r, h => by
    simp only [wo]
    by_cases hr : r = []
    · subst hr
      rw [if_pos (.inl (h x List.mem_cons_self)), if_pos (.inl (h x List.mem_cons_self))]
    · rw [wo_noown f _ (fun z hz => h z (List.mem_of_mem_take hz)), wo_noown f _ (fun z hz => h z (List.mem_of_mem_drop hz))]
      simp [hr]
/-- Behind the cut all have the bit. -/
theorem mem_hic {l : List Nd} (h : Ris l) {c : Nat} (hc : c < 256) (hs : ∀ x ∈ l, ∀ z ∈ l, Shr x.p z.p c) {x : Nd} (hx : x ∈ l.drop (cut c l)) : bt x.p c = 1 := by
  obtain ⟨i, hi, rfl⟩ := List.getElem_of_mem hx
  have hi' := hi
  rw [List.length_drop] at hi'
  have e : (l.drop (cut c l))[i] = l[cut c l + i]'(by omega) := List.getElem_drop ..
  rw [e]
  have h0 : l[cut c l]? = some (l[cut c l]'(by omega)) := List.getElem?_eq_getElem (by omega)
  have h1 := cut_at c l _ h0
  have h2 : l[cut c l + i]? = some (l[cut c l + i]'(by omega)) := List.getElem?_eq_getElem (by omega)
  have h3 := bit_mono hc (hs _ (List.getElem_mem (by omega)) _ (List.getElem_mem (by omega))).pf (h.le h0 h2 (by omega))
  have h4 := bt_le (l[cut c l + i]'(by omega)).p c
  have h5 := bt_le (l[cut c l]'(by omega)).p c
  omega
theorem shr_eq {a b : List Int} (ha : L32 a) (hb : L32 b) (h : Shr a b 256) : a = b := l32_of_bits ha hb h
theorem Shr.symm {a b : List Int} {c : Nat} (h : Shr a b c) : Shr b a c := fun i hi => (h i hi).symm
theorem Shr.trans {a b d : List Int} {c : Nat} (h : Shr a b c) (k : Shr b d c) : Shr a d c := fun i hi => (h i hi).trans (k i hi)
theorem Apn.ris {l : List Nd} (h : Apn l) : Ris l := h.rsn.ris
/-- Where both halves have some, the first bit in which they differ is this one. -/
theorem cl_both {l : List Nd} (h : Ris l) {c : Nat} (hc : c < 256) (hs : ∀ x ∈ l, ∀ z ∈ l, Shr x.p z.p c) (h1 : l.take (cut c l) ≠ []) (h2 : l.drop (cut c l) ≠ []) : 2 ≤ l.length ∧ cl l = c := by
  have q1 : 0 < cut c l := by
    rcases Nat.eq_zero_or_pos (cut c l) with e | e
    · rw [e] at h1; exact absurd rfl h1
    · exact e
  have q2 : cut c l < l.length := by
    rcases Nat.lt_or_ge (cut c l) l.length with e | e
    · exact e
    · exact absurd (List.drop_eq_nil_of_le e) h2
  refine ⟨by omega, ?_⟩
  obtain ⟨a, ha⟩ : ∃ x, l[0]? = some x := ⟨l[0]'(by omega), List.getElem?_eq_getElem (by omega)⟩
  obtain ⟨b, hb⟩ : ∃ x, l[l.length - 1]? = some x := ⟨l[l.length - 1]'(by omega), List.getElem?_eq_getElem (by omega)⟩
  unfold cl
  rw [hp_eq ha, lp_eq hb]
  refine cm_uniq (by omega) (hs _ (List.mem_of_getElem? ha) _ (List.mem_of_getElem? hb)) (fun _ => ?_)
  have e1 := cut_lo c l 0 a ha q1
  have e2 : bt b.p c = 1 := mem_hic h hc hs (x := b) (List.mem_of_getElem? (i := l.length - 1 - cut c l) (by rw [List.getElem?_drop, show cut c l + (l.length - 1 - cut c l) = l.length - 1 by omega]; exact hb))
  omega
theorem mem_loc {l : List Nd} {c : Nat} {x : Nd} (hx : x ∈ l.take (cut c l)) : bt x.p c = 0 := mem_lo hx
/-- Those of a list that hold. -/
def anyH (fresh : List Nd) (n : Nd) : Bool := fresh.any (fun z => hl n z.p)
theorem anyH_app (a b : List Nd) (n : Nd) : anyH (a ++ b) n = (anyH a n || anyH b n) := by simp [anyH]
theorem anyH_no {l : List Nd} {n : Nd} {c : Nat} (hc : c < 256) (hn : ((c + 1 : Nat) : Int) ≤ n.n) (h : ∀ z ∈ l, bt z.p c ≠ bt n.p c) : anyH l n = false := by
  unfold anyH
  rw [List.any_eq_false]
  intro z hz e
  exact h z hz (hl_beg (k := c + 1) (by omega) hn e c (by omega)).symm
theorem wo_half {fresh fa fb' l : List Nd} {own : Bool} {f c b : Nat} (hc : c < 256) (hfr : fresh = fa ++ fb' ∨ fresh = fb' ++ fa) (hl' : Apn l) (hn : ∀ x ∈ l, x.n = 256) (hs : ∀ x ∈ l, ∀ z ∈ l, Shr x.p z.p c) (h1 : ∀ x ∈ l, bt x.p c = b) (h2 : ∀ z ∈ fb', bt z.p c ≠ b) : wo (anyH fa) own f l = wo (anyH fresh) own f l := by
  cases l with
  | nil => rw [wo_nil, wo_nil]
  | cons x r =>
    refine wo_beg (q := x.p) (k := c + 1) (by omega) (fun n g1 g2 => ?_) f _ hl' (fun z hz => ⟨shr_one (hs z hz x List.mem_cons_self) (by rw [h1 z hz, h1 x List.mem_cons_self]), by rw [hn z hz]; omega⟩)
    have hno : anyH fb' n = false := anyH_no hc g2 (fun z hz => by rw [g1 c (by omega), h1 x List.mem_cons_self]; exact h2 z hz)
    rcases hfr with e | e <;> rw [e, anyH_app, hno] <;> simp
theorem st_wo : ∀ (f c : Nat) (old fresh : List Nd) (g : Nat), f + c = 256 → Apn old → Apn fresh → (∀ x ∈ old, x.n = 256) → (∀ x ∈ old ++ fresh, ∀ z ∈ old ++ fresh, Shr x.p z.p c) → (∀ x ∈ old, ∀ z ∈ fresh, x.p ≠ z.p) → old.length ≤ g →
    st f c old fresh = wo (anyH fresh) false g old
  | f, c, [], fresh, g, _, _, _, _, _, _, _ => by rw [st_nil, wo_nil]
  | f, c, x :: r, [], 0, _, _, _, _, _, _, hg => absurd hg (by simp)
  | f, c, x :: r, [], g + 1, _, _, _, _, _, _, _ => by rw [st_one _ _ (by simp), wo_held (by simp) rfl]
  | 0, c, x :: r, z :: s, g, hf, ho, hfr, _, hs, hd, _ => by
    obtain rfl : c = 256 := by omega
    exact absurd (shr_eq (ho.ok x (by simp)).p (hfr.ok z (by simp)).p (hs x (by simp) z (by simp))) (hd x (by simp) z (by simp))
  | f + 1, c, x :: r, z :: s, g, hf, ho, hfr, hn, hs, hd, hg => by
    obtain ⟨old, hold⟩ : ∃ l, x :: r = l := ⟨_, rfl⟩
    obtain ⟨fresh, hfresh⟩ : ∃ l, z :: s = l := ⟨_, rfl⟩
    have n1 : old ≠ [] := by rw [← hold]; simp
    have n2 : fresh ≠ [] := by rw [← hfresh]; simp
    have zf : z ∈ fresh := by rw [← hfresh]; simp
    rw [hold, hfresh] at hs hd
    rw [hold] at ho hn hg ⊢
    rw [hfresh] at hfr ⊢
    have hc : c < 256 := by omega
    rw [st_more _ _ n1 n2]
    have so : ∀ x ∈ old, ∀ z ∈ old, Shr x.p z.p c := fun a ha b hb => hs a (List.mem_append_left _ ha) b (List.mem_append_left _ hb)
    have sf : ∀ x ∈ fresh, ∀ z ∈ fresh, Shr x.p z.p c := fun a ha b hb => hs a (List.mem_append_right _ ha) b (List.mem_append_right _ hb)
    have lo : ∀ y ∈ old.take (cut c old) ++ fresh.take (cut c fresh), bt y.p c = 0 := fun y hy => by
      rcases List.mem_append.1 hy with q | q
      · exact mem_loc q
      · exact mem_loc q
    have hi : ∀ y ∈ old.drop (cut c old) ++ fresh.drop (cut c fresh), bt y.p c = 1 := fun y hy => by
      rcases List.mem_append.1 hy with q | q
      · exact mem_hic ho.ris hc so q
      · exact mem_hic hfr.ris hc sf q
    have sub1 : ∀ y ∈ old.take (cut c old) ++ fresh.take (cut c fresh), y ∈ old ++ fresh := fun y hy => by
      rcases List.mem_append.1 hy with q | q
      · exact List.mem_append_left _ (List.mem_of_mem_take q)
      · exact List.mem_append_right _ (List.mem_of_mem_take q)
    have sub2 : ∀ y ∈ old.drop (cut c old) ++ fresh.drop (cut c fresh), y ∈ old ++ fresh := fun y hy => by
      rcases List.mem_append.1 hy with q | q
      · exact List.mem_append_left _ (List.mem_of_mem_drop q)
      · exact List.mem_append_right _ (List.mem_of_mem_drop q)
    have main : ∀ g', (old.take (cut c old)).length ≤ g' → (old.drop (cut c old)).length ≤ g' →
        st f (c + 1) (old.take (cut c old)) (fresh.take (cut c fresh)) ++ st f (c + 1) (old.drop (cut c old)) (fresh.drop (cut c fresh)) = wo (anyH fresh) false g' (old.take (cut c old)) ++ wo (anyH fresh) false g' (old.drop (cut c old)) := fun g' k1 k2 => by
      rw [st_wo f (c + 1) _ _ g' (by omega) (ho.take _) (hfr.take _) (fun y hy => hn y (List.mem_of_mem_take hy)) (fun a ha b hb => shr_one (hs a (sub1 a ha) b (sub1 b hb)) (by rw [lo a ha, lo b hb])) (fun a ha b hb => hd a (List.mem_of_mem_take ha) b (List.mem_of_mem_take hb)) k1,
        st_wo f (c + 1) _ _ g' (by omega) (ho.drop _) (hfr.drop _) (fun y hy => hn y (List.mem_of_mem_drop hy)) (fun a ha b hb => shr_one (hs a (sub2 a ha) b (sub2 b hb)) (by rw [hi a ha, hi b hb])) (fun a ha b hb => hd a (List.mem_of_mem_drop ha) b (List.mem_of_mem_drop hb)) k2,
        wo_half (fresh := fresh) (fb' := fresh.drop (cut c fresh)) (b := 0) hc (.inl (List.take_append_drop _ _).symm) (ho.take _) (fun y hy => hn y (List.mem_of_mem_take hy)) (fun a ha b hb => so a (List.mem_of_mem_take ha) b (List.mem_of_mem_take hb)) (fun y hy => lo y (List.mem_append_left _ hy)) (fun y hy => by rw [hi y (List.mem_append_right _ hy)]; omega),
        wo_half (fresh := fresh) (fb' := fresh.take (cut c fresh)) (b := 1) hc (.inr (List.take_append_drop _ _).symm) (ho.drop _) (fun y hy => hn y (List.mem_of_mem_drop hy)) (fun a ha b hb => so a (List.mem_of_mem_drop ha) b (List.mem_of_mem_drop hb)) (fun y hy => hi y (List.mem_append_left _ hy)) (fun y hy => by rw [lo y (List.mem_append_right _ hy)]; omega)]
    by_cases e1 : old.take (cut c old) = []
    · have e2 : old.drop (cut c old) = old := by have := List.take_append_drop (cut c old) old; rwa [e1, List.nil_append] at this
      rw [main g (by rw [e1]; simp) (by rw [e2]; exact hg), e1, e2, wo_nil, List.nil_append]
    by_cases e3 : old.drop (cut c old) = []
    · have e2 : old.take (cut c old) = old := by have := List.take_append_drop (cut c old) old; rwa [e3, List.append_nil] at this
      rw [main g (by rw [e2]; exact hg) (by rw [e3]; simp), e3, e2, wo_nil, List.append_nil]
    obtain ⟨h2, hcl⟩ := cl_both ho.ris hc so e1 e3
    obtain ⟨g', rfl⟩ : ∃ g', g = g' + 1 := ⟨g - 1, by omega⟩
    have p1 := List.length_pos_iff.2 e1
    have p2 := List.length_pos_iff.2 e3
    have p3 := congrArg List.length (List.take_append_drop (cut c old) old)
    rw [List.length_append] at p3
    have hh : anyH fresh (ovl old) = true := by
      unfold anyH
      rw [List.any_eq_true]
      refine ⟨z, zf, (hl_ovl ho.ris h2 z.p).2 ?_⟩
      rw [hcl]
      obtain ⟨a, ha⟩ : ∃ x, old[0]? = some x := ⟨old[0]'(by omega), List.getElem?_eq_getElem (by omega)⟩
      rw [hp_eq ha]
      exact hs a (List.mem_append_left _ (List.mem_of_getElem? ha)) z (List.mem_append_right _ zf)
    rw [main g' (by omega) (by omega), wo_more h2 hh, hcl]
end Go.Proofs.YtpojalbpekbfdabDoor
/- Plain mathematics: what stays and what is added make up the grown tree. -/
namespace Go.Proofs.YtpojalbpekbfdabDoor
open Go Go.RowKit
set_option linter.unusedSimpArgs false
set_option linter.unusedVariables false
set_option maxRecDepth 100000

theorem filter_all {p : Nd → Bool} {l : List Nd} (h : ∀ x ∈ l, p x = true) : l.filter p = l := List.filter_eq_self.2 h
theorem filter_no {p : Nd → Bool} {l : List Nd} (h : ∀ x ∈ l, p x = false) : l.filter p = [] := List.filter_eq_nil_iff.2 (fun x hx => by rw [h x hx]; decide)
/-- The halves by their bit. -/
theorem take_filter {l : List Nd} (h : Ris l) {c : Nat} (hc : c < 256) (hs : ∀ x ∈ l, ∀ z ∈ l, Shr x.p z.p c) : l.take (cut c l) = l.filter (fun x => decide (bt x.p c = 0)) ∧ l.drop (cut c l) = l.filter (fun x => decide (bt x.p c = 1)) := by
  have e := List.take_append_drop (cut c l) l
  have a1 : ∀ x ∈ l.take (cut c l), bt x.p c = 0 := fun x hx => mem_loc hx
  have a2 : ∀ x ∈ l.drop (cut c l), bt x.p c = 1 := fun x hx => mem_hic h hc hs hx
  constructor
  · have : l.filter (fun x => decide (bt x.p c = 0)) = (l.take (cut c l) ++ l.drop (cut c l)).filter (fun x => decide (bt x.p c = 0)) := by rw [e]
    rw [this, List.filter_append, filter_all (fun x hx => by rw [a1 x hx]; rfl), filter_no (fun x hx => by rw [a2 x hx]; rfl), List.append_nil]
  · have : l.filter (fun x => decide (bt x.p c = 1)) = (l.take (cut c l) ++ l.drop (cut c l)).filter (fun x => decide (bt x.p c = 1)) := by rw [e]
    rw [this, List.filter_append, filter_no (l := l.take (cut c l)) (fun x hx => by rw [a1 x hx]; rfl), filter_all (l := l.drop (cut c l)) (fun x hx => by rw [a2 x hx]; rfl), List.nil_append]
theorem perm_split {a b c d : List Nd} : ((a ++ b) ++ (c ++ d)).Perm ((a ++ c) ++ (b ++ d)) := by
  rw [List.append_assoc, List.append_assoc]
  refine List.Perm.append_left a ?_
  rw [← List.append_assoc, ← List.append_assoc]
  exact List.Perm.append_right d List.perm_append_comm
theorem cu_st : ∀ (f c : Nat) (old fresh all : List Nd), f + c = 256 → Apn old → Apn fresh → (∀ x ∈ old ++ fresh, ∀ z ∈ old ++ fresh, Shr x.p z.p c) → (∀ x ∈ old, ∀ z ∈ fresh, x.p ≠ z.p) → all.Perm (old ++ fresh) → Apn all → all ≠ [] →
    ∃ m, Cu all m ∧ m.Perm (st f c old fresh ++ fresh)
  | f, c, [], fresh, all, _, _, hfr, _, _, hp, ha, hne => by
    rw [st_nil]
    exact ⟨all, cu_id _ all (Nat.le_refl _) ha.ris hne, hp⟩
  | f, c, x :: r, [], all, _, ho, _, _, _, hp, ha, hne => by
    rw [List.append_nil] at hp
    have e : all = x :: r := rise_uniq hp ha.ris.up ho.ris.up
    rw [st_one _ _ (by simp), List.append_nil, e]
    exact ⟨_, Cu.one (by simp), List.Perm.refl _⟩
  | 0, c, x :: r, z :: s, all, hf, ho, hfr, hs, hd, _, _, _ => by
    obtain rfl : c = 256 := by omega
    exact absurd (shr_eq (ho.ok x (by simp)).p (hfr.ok z (by simp)).p (hs x (by simp) z (by simp))) (hd x (by simp) z (by simp))
  | f + 1, c, x :: r, z :: s, all, hf, ho, hfr, hs, hd, hp, ha, hne => by
    obtain ⟨old, hold⟩ : ∃ l, x :: r = l := ⟨_, rfl⟩
    obtain ⟨fresh, hfresh⟩ : ∃ l, z :: s = l := ⟨_, rfl⟩
    have n1 : old ≠ [] := by rw [← hold]; simp
    have n2 : fresh ≠ [] := by rw [← hfresh]; simp
    rw [hold, hfresh] at hs hd hp
    rw [hold] at ho ⊢
    rw [hfresh] at hfr ⊢
    have hc : c < 256 := by omega
    rw [st_more _ _ n1 n2]
    have so : ∀ x ∈ old, ∀ z ∈ old, Shr x.p z.p c := fun a ha b hb => hs a (List.mem_append_left _ ha) b (List.mem_append_left _ hb)
    have sf : ∀ x ∈ fresh, ∀ z ∈ fresh, Shr x.p z.p c := fun a ha b hb => hs a (List.mem_append_right _ ha) b (List.mem_append_right _ hb)
    have sa : ∀ x ∈ all, ∀ z ∈ all, Shr x.p z.p c := fun a ha b hb => hs a (hp.mem_iff.1 ha) b (hp.mem_iff.1 hb)
    obtain ⟨o1, o2⟩ := take_filter ho.ris hc so
    obtain ⟨f1, f2⟩ := take_filter hfr.ris hc sf
    obtain ⟨a1, a2⟩ := take_filter ha.ris hc sa
    have p1 : (all.take (cut c all)).Perm (old.take (cut c old) ++ fresh.take (cut c fresh)) := by
      rw [o1, f1, a1, ← List.filter_append]; exact hp.filter _
    have p2 : (all.drop (cut c all)).Perm (old.drop (cut c old) ++ fresh.drop (cut c fresh)) := by
      rw [o2, f2, a2, ← List.filter_append]; exact hp.filter _
    have lo : ∀ y ∈ old.take (cut c old) ++ fresh.take (cut c fresh), bt y.p c = 0 := fun y hy => by
      rcases List.mem_append.1 hy with q | q
      · exact mem_loc q
      · exact mem_loc q
    have hi : ∀ y ∈ old.drop (cut c old) ++ fresh.drop (cut c fresh), bt y.p c = 1 := fun y hy => by
      rcases List.mem_append.1 hy with q | q
      · exact mem_hic ho.ris hc so q
      · exact mem_hic hfr.ris hc sf q
    have sub1 : ∀ y ∈ old.take (cut c old) ++ fresh.take (cut c fresh), y ∈ old ++ fresh := fun y hy => by
      rcases List.mem_append.1 hy with q | q
      · exact List.mem_append_left _ (List.mem_of_mem_take q)
      · exact List.mem_append_right _ (List.mem_of_mem_take q)
    have sub2 : ∀ y ∈ old.drop (cut c old) ++ fresh.drop (cut c fresh), y ∈ old ++ fresh := fun y hy => by
      rcases List.mem_append.1 hy with q | q
      · exact List.mem_append_left _ (List.mem_of_mem_drop q)
      · exact List.mem_append_right _ (List.mem_of_mem_drop q)
    have ih1 := fun h => cu_st f (c + 1) (old.take (cut c old)) (fresh.take (cut c fresh)) (all.take (cut c all)) (by omega) (ho.take _) (hfr.take _) (fun a ha b hb => shr_one (hs a (sub1 a ha) b (sub1 b hb)) (by rw [lo a ha, lo b hb])) (fun a ha b hb => hd a (List.mem_of_mem_take ha) b (List.mem_of_mem_take hb)) p1 (ha.take _) h
    have ih2 := fun h => cu_st f (c + 1) (old.drop (cut c old)) (fresh.drop (cut c fresh)) (all.drop (cut c all)) (by omega) (ho.drop _) (hfr.drop _) (fun a ha b hb => shr_one (hs a (sub2 a ha) b (sub2 b hb)) (by rw [hi a ha, hi b hb])) (fun a ha b hb => hd a (List.mem_of_mem_drop ha) b (List.mem_of_mem_drop hb)) p2 (ha.drop _) h
    have ef := List.take_append_drop (cut c fresh) fresh
    have fin : ∀ a b : List Nd, ((a ++ b) ++ fresh) = ((a ++ b) ++ (fresh.take (cut c fresh) ++ fresh.drop (cut c fresh))) := fun a b => by rw [ef]
    rw [fin]
    by_cases e1 : all.take (cut c all) = []
    · have e2 : all.drop (cut c all) = all := by have := List.take_append_drop (cut c all) all; rwa [e1, List.nil_append] at this
      rw [e1] at p1
      have e3 := List.append_eq_nil_iff.1 p1.symm.eq_nil
      obtain ⟨m, g1, g2⟩ := ih2 (by rw [e2]; exact hne)
      rw [e2] at g1
      refine ⟨m, g1, ?_⟩
      rw [e3.1, e3.2, st_nil, List.nil_append, List.nil_append]
      exact g2
    by_cases e3 : all.drop (cut c all) = []
    · have e2 : all.take (cut c all) = all := by have := List.take_append_drop (cut c all) all; rwa [e3, List.append_nil] at this
      rw [e3] at p2
      have e4 := List.append_eq_nil_iff.1 p2.symm.eq_nil
      obtain ⟨m, g1, g2⟩ := ih1 (by rw [e2]; exact hne)
      rw [e2] at g1
      refine ⟨m, g1, ?_⟩
      rw [e4.1, e4.2, st_nil, List.append_nil, List.append_nil]
      exact g2
    obtain ⟨h2, hcl⟩ := cl_both ha.ris hc sa e1 e3
    obtain ⟨m1, g1, g2⟩ := ih1 e1
    obtain ⟨m2, g3, g4⟩ := ih2 e3
    rw [← hcl] at g1 g3
    exact ⟨m1 ++ m2, Cu.two h2 g1 g3, (g2.append g4).trans perm_split⟩
/-- Each of the nodes is held by just one of those put over them. -/
theorem cu_count : ∀ {l m : List Nd}, Cu l m → Apn l → ∀ x ∈ l, (m.filter (fun n => hl n x.p)).length = 1 := by
  intro l m h
  induction h with
  | @one l hne =>
    intro ha x hx
    have : hl (ovl l) x.p = true := by
      by_cases h2 : 2 ≤ l.length
      · exact (hl_ovl ha.ris h2 x.p).2 (ha.ris.shr h2 hx).symm
      · match l, hne, h2, hx with
        | [z], _, _, hx =>
          obtain rfl : x = z := by simpa using hx
          have g := apt_good ha.ap x (by simp)
          rw [ovl_one]
          unfold hl
          rw [g, Bool.true_and, decide_eq_true_iff]
          have := gd_iff.1 g
          exact (cm_ge (by omega)).2 (fun i _ => rfl)
        | a :: b :: r, _, h2, _ => exact absurd (by simp) h2
    simp [this]
  | @two l a b h2 h3 h4 ih1 ih2 =>
    intro ha x hx
    obtain ⟨hb1, hb2, hb3⟩ := half_beg ha h2
    have hc := ha.ris.cl_lt h2
    have e := List.take_append_drop (cut (cl l) l) l
    have m1 := cu_main h3 (ha.take _)
    have m2 := cu_main h4 (ha.drop _)
    have other : ∀ (m' part : List Nd) (bb : Nat), (∀ (q : List Int) (k : Nat), k ≤ 256 → Beg q k part → Beg q k m') → part ≠ [] → (∀ z ∈ part, z ∈ l) → (∀ z ∈ part, bt z.p (cl l) = bb) → Apn part → bt x.p (cl l) ≠ bb → (∀ z ∈ part, ((cl l + 1 : Nat) : Int) ≤ z.n) → m'.filter (fun n => hl n x.p) = [] := by
      intro m' part bb k1 k2 k3 k4 k5 k6 k7
      obtain ⟨y, hy⟩ : ∃ y, y ∈ part := by
        cases part with
        | nil => exact absurd rfl k2
        | cons y r => exact ⟨y, by simp⟩
      have hbg : Beg y.p (cl l + 1) part := fun z hz => ⟨shr_one (((ha.ris.shr h2 (k3 z hz))).trans (ha.ris.shr h2 (k3 y hy)).symm) (by rw [k4 z hz, k4 y hy]), k7 z hz⟩
      have := k1 y.p (cl l + 1) (by omega) hbg
      refine filter_no (fun n hn => ?_)
      obtain ⟨q1, q2⟩ := this n hn
      cases hq : hl n x.p with
      | false => rfl
      | true =>
        have := hl_beg (k := cl l + 1) (by omega) q2 hq (cl l) (by omega)
        rw [q1 (cl l) (by omega), k4 y hy] at this
        exact absurd this.symm k6
    have hlong : ∀ z ∈ l, ((cl l + 1 : Nat) : Int) ≤ z.n := fun z hz => by have := ha.longer h2 hz; omega
    obtain ⟨k1, k2⟩ := ha.ris.cut_in h2
    rw [List.filter_append, List.length_append]
    rw [← e] at hx
    rcases List.mem_append.1 hx with q | q
    · rw [ih1 (ha.take _) x q, other b _ 1 m2.2.2.2 (by intro e0; have := congrArg List.length e0; rw [List.length_drop, List.length_nil] at this; omega) (fun z hz => List.mem_of_mem_drop hz) hb3 (ha.drop _) (by rw [hb2 x q]; omega) (fun z hz => hlong z (List.mem_of_mem_drop hz))]
      rfl
    · rw [ih2 (ha.drop _) x q, other a _ 0 m1.2.2.2 (by intro e0; have := congrArg List.length e0; rw [List.length_take, List.length_nil] at this; omega) (fun z hz => List.mem_of_mem_take hz) hb2 (ha.take _) (by rw [hb3 x q]; omega) (fun z hz => hlong z (List.mem_of_mem_take hz))]
      rfl
end Go.Proofs.YtpojalbpekbfdabDoor
