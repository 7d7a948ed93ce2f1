/- A log as it lies on its disk, and what is made of it: mathematics alone. -/
import Derived.Test.YthfpakjfdncphaaDoorWalPC
import Derived.Test.YthfpakjfdncphaaDoorWalW
namespace Go.Proofs.YthfpakjfdncphaaDoor
open Go Go.RowKit
set_option linter.unusedSimpArgs false
set_option linter.unusedVariables false
set_option maxRecDepth 100000

theorem tk_cg {s s' : Dk} {a t : Nat} (h0 : rdV s' (a : Int) = rdV s (a : Int)) (h1 : ¬ t ≤ a → ¬ (t - a - 1) * 64 < tkn s a → ∀ k, k < nsec (tkn s a) → rdV s' ((a + (k + 1) : Nat) : Int) = rdV s ((a + (k + 1) : Nat) : Int)) : tk s' a t = tk s a t := by
  have hn : tkn s' a = tkn s a := by unfold tkn; rw [h0]
  unfold tk
  rw [hn, h0]
  split
  · rfl
  · rename_i hta
    split
    · rfl
    · rename_i hb
      have hg : ∀ k, k ≤ nsec (tkn s a) → gat s' a k = gat s a k := by
        intro k
        induction k with
        | zero => intro _; rfl
        | succ k ih => intro hk; rw [gat, gat, ih (by omega), h1 hta hb k (by omega)]
      have hp : tkp s' a = tkp s a := by unfold tkp pk; rw [hn, hg _ (Nat.le_refl _)]
      rw [hp]
theorem tk_len {s : Dk} (hS : Sby s) {a t : Nat} {P : List Int} (h : tk s a t = some P) : tkn s a = P.length := by
  unfold tk at h
  split at h
  · cases h
  · split at h
    · cases h
    · split at h
      · cases h; exact (tkp_length hS a).symm
      · cases h
theorem tk_keep {s s' : Dk} (hS : Sby s) {a t : Nat} {P : List Int} (h : tk s a t = some P) (hr : ∀ i : Nat, a ≤ i → i < a + fl P.length → rdV s' (i : Int) = rdV s (i : Int)) : tk s' a t = some P := by
  rw [tk_cg (s := s) (hr a (Nat.le_refl _) (by unfold fl; omega)) (fun _ _ k hk => hr _ (by omega) (by rw [tk_len hS h] at hk; unfold nsec at hk; unfold fl; omega))]
  exact h
theorem tk_half {s s' : Dk} {a t : Nat} (hat : a < t) (hr : ∀ i : Nat, a ≤ i → i < t → rdV s' (i : Int) = rdV s (i : Int)) : tk s' a t = tk s a t :=
  tk_cg (hr a (Nat.le_refl _) hat) (fun h1 h2 k hk => hr _ (by omega) (by unfold nsec at hk; omega))
theorem Frs.cg {s s' : Dk} (hS : Sby s) {t : Nat} : ∀ {ns : List (List Int)} {e e' : Nat}, Frs s t e ns e' → (∀ i : Nat, e ≤ i → i < e' → rdV s' (i : Int) = rdV s (i : Int)) → Frs s' t e ns e'
  | [], e, e', h, _ => h
  | P :: ns, e, e', h, hr => by
    have hl := Frs.le hS h.2
    exact ⟨tk_keep hS h.1 (fun i h1 h2 => hr i h1 (by omega)), Frs.cg hS h.2 (fun i h1 h2 => hr i (by omega) h2)⟩
theorem rdV_st {s : Dk} (hd : s.dn = false) (hw : s.wt = []) {i : Nat} (hi : i < s.n) : rdV s (i : Int) = s.st i := by
  have hb : hasB s.n (i : Int) = true := by unfold hasB; simp; omega
  unfold rdV
  rw [hb, hd, hw]
  show look s.st [] (Int.toNat (i : Int)) = _
  rw [Int.toNat_natCast]; rfl
theorem hd_num (p : List Int) (h : p.length < 18446744073709551616) : nm (((hd p).drop 32).take 8) = (p.length : Int) := by
  have h1 : (hd p).drop 32 = be 8 (p.length : Int) ++ List.replicate 24 0 := by
    unfold hd hdp
    rw [List.drop_append_of_le_length (by rw [hs_length]; omega), List.drop_of_length_le (by rw [hs_length]; omega), List.nil_append]
  rw [h1, List.take_append_of_le_length (by rw [be_length]; omega), List.take_of_length_le (by rw [be_length]; omega)]
  exact nm_be8 _ (by omega) (by omega)
theorem gat_laid {s : Dk} {a : Nat} {p : List Int} (hr : ∀ k, k < nsec p.length → rdV s ((a + (k + 1) : Nat) : Int) = sec p k) : ∀ k, k ≤ nsec p.length → gat s a k = p.take (64 * k) ++ List.replicate (64 * k - p.length) 0
  | 0, _ => by simp [gat]
  | k + 1, hk => by
    have hk' : 64 * k < p.length := by unfold nsec at hk; omega
    rw [gat, gat_laid hr k (by omega), hr k (by omega), show 64 * k - p.length = 0 by omega, List.replicate_zero, List.append_nil, sec, ← List.append_assoc]
    have e1 : p.take (64 * k) ++ (p.drop (64 * k)).take 64 = p.take (64 * (k + 1)) := by
      rw [show 64 * (k + 1) = 64 * k + 64 by omega, List.take_add]
    rw [e1]
    congr 2
    omega
/-- A frame that was laid is there. -/
theorem tk_lay {s : Dk} {a t : Nat} {p : List Int} (hr0 : rdV s (a : Int) = hd p) (hr : ∀ k, k < nsec p.length → rdV s ((a + (k + 1) : Nat) : Int) = sec p k) (hat : a + fl p.length ≤ t) (hl : p.length < 18446744073709551616) : tk s a t = some p := by
  have hn : tkn s a = p.length := by unfold tkn; rw [hr0, hd_num p hl]; rfl
  have hp : tkp s a = p := by
    unfold tkp pk
    rw [hn, gat_laid hr _ (Nat.le_refl _)]
    have h1 : p.length ≤ 64 * nsec p.length := by unfold nsec; omega
    rw [show p.length - 64 * nsec p.length = 0 by omega, List.replicate_zero, List.append_nil, List.take_of_length_le (l := p) h1, List.take_append_of_le_length (Nat.le_refl _), List.take_length]
  unfold tk
  rw [if_neg (by unfold fl at hat; omega), hn, if_neg (by unfold fl at hat; omega), hp, hr0, if_pos rfl]
/-- What is laid of a frame, by sectors. -/
theorem rd_layS {s : Dk} (hd' : s.dn = false) (a : Nat) (p : List Int) (ha : a + fl p.length < s.n) :
    rdV { s with st := layS s.st a p, wt := [] } (a : Int) = hd p ∧ (∀ k, k < nsec p.length → rdV { s with st := layS s.st a p, wt := [] } ((a + (k + 1) : Nat) : Int) = sec p k) ∧ rdV { s with st := layS s.st a p, wt := [] } ((a + fl p.length : Nat) : Int) = z64 := by
  have hf : fl p.length = nsec p.length + 1 := by unfold fl nsec; omega
  refine ⟨?_, fun k hk => ?_, ?_⟩
  · rw [rdV_st (s := { s with st := layS s.st a p, wt := [] }) hd' rfl (show a < s.n by omega)]
    show layS s.st a p a = _
    unfold layS; rw [if_pos rfl]
  · rw [rdV_st (s := { s with st := layS s.st a p, wt := [] }) hd' rfl (show a + (k + 1) < s.n by omega)]
    show layS s.st a p (a + (k + 1)) = _
    unfold layS
    rw [if_neg (by omega), if_neg (by omega), if_pos (by omega)]
    congr 1; omega
  · rw [rdV_st (s := { s with st := layS s.st a p, wt := [] }) hd' rfl (show a + fl p.length < s.n by omega)]
    show layS s.st a p (a + fl p.length) = _
    unfold layS
    rw [if_neg (by omega), if_pos rfl]
theorem rd_other {s : Dk} (hd' : s.dn = false) (hw : s.wt = []) (a : Nat) (p : List Int) {i : Nat} (hi : i < s.n) (ho : i < a ∨ a + fl p.length < i) : rdV { s with st := layS s.st a p, wt := [] } (i : Int) = rdV s (i : Int) := by
  rw [rdV_st (s := { s with st := layS s.st a p, wt := [] }) hd' rfl (show i < s.n from hi), rdV_st hd' hw hi]
  show layS s.st a p i = _
  have : 1 ≤ fl p.length := by unfold fl; omega
  unfold layS
  rw [if_neg (by omega), if_neg (by omega), if_neg (by omega)]
theorem hf_cases (n t : Nat) : (t % 2 = 0 ∧ hfF n t = 0 ∧ hfT n t = n / 2) ∨ (t % 2 = 1 ∧ hfF n t = n / 2 ∧ hfT n t = n / 2 + n / 2) := by
  have : t % 2 = 0 ∨ t % 2 = 1 := by omega
  rcases this with h | h
  · exact .inl ⟨h, by unfold hfF; rw [h]; omega, by unfold hfT; rw [h]; omega⟩
  · exact .inr ⟨h, by unfold hfF; rw [h]; omega, by unfold hfT; rw [h]; omega⟩
theorem hf_mod (n t : Nat) : hfF n (t % 2) = hfF n t ∧ hfT n (t % 2) = hfT n t := by
  unfold hfF hfT; rw [Nat.mod_mod]; exact ⟨rfl, rfl⟩
/-- How a log lies on its disk. -/
structure LI (s : Dk) (l : Lo) (q : Nat → Option (Nat × List (List Int))) : Prop where
  n64 : 64 ≤ s.n
  lo : l.lo = false
  e0 : l.f0 = rdV s (hfF s.n 0 : Int)
  e1 : l.f1 = rdV s (hfF s.n 1 : Int)
  hv : Hv s q
  rok : Rok l.rs
  z : l.t = 0 → q 0 = none ∧ q 1 = none ∧ l.rs = [] ∧ l.en = 0
  p : l.t ≠ 0 → ∃ xs ns, q (l.t % 2) = some (l.t, xs) ∧ l.rs = xs ++ ns ∧ Frs s (hfT s.n l.t) (hfF s.n l.t + fl (JN (l.t : Int) xs).length) ns l.en ∧ tk s l.en (hfT s.n l.t) = none ∧ ∀ T' xs', q ((l.t + 1) % 2) = some (T', xs') → T' < l.t
theorem Frs.top {s : Dk} (hS : Sby s) {t : Nat} : ∀ {ns : List (List Int)} {e e' : Nat}, Frs s t e ns e' → e ≤ t → e' ≤ t
  | [], e, e', h, he => by cases h; exact he
  | P :: ns, e, e', h, he => Frs.top hS h.2 (tk_fits hS h.1).2.1
theorem LI.front {s : Dk} {l : Lo} {q : Nat → Option (Nat × List (List Int))} (h : LI s l q) (hS : Sby s) (h0 : l.t ≠ 0) : hfF s.n l.t < l.en ∧ l.en ≤ hfT s.n l.t ∧ l.t < 18446744073709551616 := by
  obtain ⟨xs, ns, h1, h2, h3, h4, h5⟩ := h.p h0
  obtain ⟨a1, a2, a3, a4, a5⟩ := h.hv.yes (l.t % 2) l.t xs (by omega) h1
  rw [(hf_mod s.n l.t).1, (hf_mod s.n l.t).2] at a1
  have b1 := Frs.le hS h3
  have b2 := Frs.top hS h3 (tk_fits hS a1).2.1
  have b3 : 1 ≤ fl (JN (l.t : Int) xs).length := by unfold fl; omega
  exact ⟨by omega, b2, a4⟩
theorem LI.rsl {s : Dk} {l : Lo} {q : Nat → Option (Nat × List (List Int))} (h : LI s l q) (hS : Sby s) (hn : s.n ≤ 65536) : l.rs.length ≤ 999999998 := by
  by_cases h0 : l.t = 0
  · rw [(h.z h0).2.2.1]; simp
  · obtain ⟨xs, ns, h1, h2, h3, h4, h5⟩ := h.p h0
    obtain ⟨a1, a2, a3, a4, a5⟩ := h.hv.yes (l.t % 2) l.t xs (by omega) h1
    rw [(hf_mod s.n l.t).1, (hf_mod s.n l.t).2] at a1
    have b1 := Frs.le hS h3
    have b2 := Frs.top hS h3 (tk_fits hS a1).2.1
    have b3 := (tk_fits hS a1).2.1
    have b4 : (JN (l.t : Int) xs).length = JS xs := jn_length _ xs _
    have b5 := js_many xs
    have b6 : hfT s.n l.t ≤ 65536 := by rcases hf_cases s.n l.t with ⟨_, _, c⟩ | ⟨_, _, c⟩ <;> omega
    rw [b4] at b3
    unfold fl at b3
    rw [h2, List.length_append]
    omega
/-- One more record, laid at the end. -/
theorem LI.append {s : Dk} {l : Lo} {q : Nat → Option (Nat × List (List Int))} (h : LI s l q) (hS : Sby s) (hu : Up s) (hw : s.wt = []) (h0 : l.t ≠ 0) {p : List Int} (hf : l.en + fl p.length < hfT s.n l.t) (hb : Byt p) (hp : p.length ≤ 65536) :
    apR s l p = (0, { s with st := layS s.st l.en p, wt := [] }, { l with rs := l.rs ++ [p], en := l.en + fl p.length, lo := false }) ∧ LI { s with st := layS s.st l.en p, wt := [] } { l with rs := l.rs ++ [p], en := l.en + fl p.length, lo := false } q := by
  have hT : hfT s.n l.t ≤ s.n := by rcases hf_cases s.n l.t with ⟨_, _, c⟩ | ⟨_, _, c⟩ <;> omega
  obtain ⟨f1, f2, f3⟩ := h.front hS h0
  have hl := lay_ok hu hw l.en p (by omega)
  obtain ⟨r1, r2, r3⟩ := rd_layS hu.dn l.en p (by omega)
  have ro : ∀ i : Nat, i < s.n → (i < l.en ∨ l.en + fl p.length < i) → rdV { s with st := layS s.st l.en p, wt := [] } (i : Int) = rdV s (i : Int) := fun i hi ho => rd_other hu.dn hw l.en p hi ho
  have hf1 : 1 ≤ fl p.length := by unfold fl; omega
  refine ⟨?_, ?_⟩
  · unfold apR
    rw [if_pos hf, hl]
    simp
  · obtain ⟨xs, ns, h1, h2, h3, h4, h5⟩ := h.p h0
    have n64 := h.n64
    have hfirst : ∀ t : Nat, hfF s.n t < s.n ∧ (hfF s.n t < l.en ∨ l.en + fl p.length < hfF s.n t) := by
      intro t
      rcases hf_cases s.n t with ⟨c1, c2, c3⟩ | ⟨c1, c2, c3⟩ <;> rcases hf_cases s.n l.t with ⟨d1, d2, d3⟩ | ⟨d1, d2, d3⟩ <;> rw [c2] <;> rw [d2] at f1 <;> rw [d3] at hf <;> omega
    have hbeg : ∀ i P, i < 2 → tk s (hfF s.n i) (hfT s.n i) = P → tk { s with st := layS s.st l.en p, wt := [] } (hfF s.n i) (hfT s.n i) = P := by
      intro i P hi hP
      by_cases hil : i = l.t % 2
      · subst hil
        rw [(hf_mod s.n l.t).1, (hf_mod s.n l.t).2] at hP ⊢
        obtain ⟨a1, a2, a3, a4, a5⟩ := h.hv.yes (l.t % 2) l.t xs (by omega) h1
        rw [(hf_mod s.n l.t).1, (hf_mod s.n l.t).2] at a1
        rw [a1] at hP
        subst hP
        have b1 := Frs.le hS h3
        exact tk_keep hS a1 (fun j j1 j2 => ro j (by omega) (.inl (by omega)))
      · rw [← hP]
        refine tk_half ?_ (fun j j1 j2 => ro j ?_ ?_)
        · rcases hf_cases s.n i with ⟨c1, c2, c3⟩ | ⟨c1, c2, c3⟩ <;> omega
        · rcases hf_cases s.n i with ⟨c1, c2, c3⟩ | ⟨c1, c2, c3⟩ <;> omega
        · rcases hf_cases s.n i with ⟨c1, c2, c3⟩ | ⟨c1, c2, c3⟩ <;> rcases hf_cases s.n l.t with ⟨d1, d2, d3⟩ | ⟨d1, d2, d3⟩ <;> rw [c2] at j1 <;> rw [c3] at j2 <;> rw [d2] at f1 <;> rw [d3] at hf <;> omega
    refine ⟨h.n64, rfl, ?_, ?_, ⟨fun i hi hq => (h.hv.no i hi hq).imp (hbeg i _ hi) (hbeg i _ hi), fun i T ys hi hq => ?_⟩, ?_, fun hz => absurd hz h0, fun _ => ⟨xs, ns ++ [p], h1, ?_, ?_, ?_, h5⟩⟩
    · rw [show ({ s with st := layS s.st l.en p, wt := [] } : Dk).n = s.n from rfl, ro _ (hfirst 0).1 (hfirst 0).2]; exact h.e0
    · rw [show ({ s with st := layS s.st l.en p, wt := [] } : Dk).n = s.n from rfl, ro _ (hfirst 1).1 (hfirst 1).2]; exact h.e1
    · obtain ⟨a1, a2⟩ := h.hv.yes i T ys hi hq
      exact ⟨hbeg i _ hi a1, a2⟩
    · intro m hm
      rcases List.mem_append.1 hm with x | x
      · exact h.rok m x
      · have : m = p := by simpa using x
        rw [this]; exact ⟨hb, hp⟩
    · show l.rs ++ [p] = xs ++ (ns ++ [p])
      rw [h2, List.append_assoc]
    · exact (h3.cg hS (fun i i1 i2 => ro i (by omega) (.inl i2))).snoc (tk_lay r1 r2 (Nat.le_of_lt hf) (by omega))
    · exact blank_none r3 _
theorem setF_two (l : Lo) (i : Nat) (x : List Int) : (setF l i x).f0 = (if i = 0 then x else l.f0) ∧ (setF l i x).f1 = (if i = 0 then l.f1 else x) := by
  unfold setF; split <;> exact ⟨rfl, rfl⟩
/-- The halves' beginnings, one of them new. -/
def qs (q : Nat → Option (Nat × List (List Int))) (i : Nat) (y : Nat × List (List Int)) : Nat → Option (Nat × List (List Int)) := fun j => if j = i then some y else q j
/-- A new beginning, laid in the other half. -/
theorem LI.begin {s : Dk} {l : Lo} {q : Nat → Option (Nat × List (List Int))} (h : LI s l q) (hS : Sby s) (hu : Up s) (hw : s.wt = []) {xss : List (List Int)} (hf : hfF s.n (l.t + 1) + fl (JS xss) < hfT s.n (l.t + 1)) (hR : Rok xss) (ht : l.t + 1 < 18446744073709551616) (hJ : JS xss < 18446744073709551616) :
    (bgR s l xss).1 = 0 ∧ (bgR s l xss).2.1 = { s with st := layS s.st (hfF s.n (l.t + 1)) (JN ((l.t + 1 : Nat) : Int) xss), wt := [] } ∧ (bgR s l xss).2.2.rs = xss ∧ (bgR s l xss).2.2.t = l.t + 1 ∧ (bgR s l xss).2.2.g = l.g ∧ LI (bgR s l xss).2.1 (bgR s l xss).2.2 (qs q ((l.t + 1) % 2) (l.t + 1, xss)) := by
  have n64 := h.n64
  obtain ⟨A, hA⟩ : ∃ A, hfF s.n (l.t + 1) = A := ⟨_, rfl⟩
  obtain ⟨P, hP⟩ : ∃ P, JN ((l.t + 1 : Nat) : Int) xss = P := ⟨_, rfl⟩
  have hPl : P.length = JS xss := by rw [← hP]; exact jn_length _ xss _
  have hAn : A + fl P.length < s.n := by
    rw [hPl, ← hA]
    rcases hf_cases s.n (l.t + 1) with ⟨_, c, d⟩ | ⟨_, c, d⟩ <;> rw [d] at hf <;> omega
  have hl := lay_ok hu hw A P hAn
  obtain ⟨r1, r2, r3⟩ := rd_layS hu.dn A P hAn
  have ro : ∀ i : Nat, i < s.n → (i < A ∨ A + fl P.length < i) → rdV { s with st := layS s.st A P, wt := [] } (i : Int) = rdV s (i : Int) := fun i hi ho => rd_other hu.dn hw A P hi ho
  have hE : bgR s l xss = (0, { s with st := layS s.st A P, wt := [] }, setF { l with t := l.t + 1, rs := xss, en := A + fl (JS xss), lo := false } ((l.t + 1) % 2) (hd P)) := by
    unfold bgR
    rw [if_pos hf, hA, hP, hl, if_pos rfl, r1]
  have hf2 : A + fl P.length < hfT s.n (l.t + 1) := by rw [hPl, ← hA]; exact hf
  have hother : hfF s.n l.t < s.n ∧ ∀ j : Nat, hfF s.n l.t ≤ j → j < hfT s.n l.t → j < s.n ∧ (j < A ∨ A + fl P.length < j) := by
    rw [← hA] at hf2 ⊢
    rcases hf_cases s.n l.t with ⟨c1, c2, c3⟩ | ⟨c1, c2, c3⟩ <;> rcases hf_cases s.n (l.t + 1) with ⟨d1, d2, d3⟩ | ⟨d1, d2, d3⟩ <;> rw [c2, c3] <;> rw [d2] at hf2 ⊢ <;> rw [d3] at hf2 <;> exact ⟨by omega, fun j j1 j2 => by omega⟩
  obtain ⟨b1, b2, b3, b4, b5⟩ := setF_same { l with t := l.t + 1, rs := xss, en := A + fl (JS xss), lo := false } ((l.t + 1) % 2) (hd P)
  obtain ⟨g1, g2⟩ := setF_two { l with t := l.t + 1, rs := xss, en := A + fl (JS xss), lo := false } ((l.t + 1) % 2) (hd P)
  rw [hE]
  refine ⟨rfl, by rw [hA, hP], b1, b3, b2, ?_⟩
  obtain ⟨L, hL⟩ : ∃ L, setF { l with t := l.t + 1, rs := xss, en := A + fl (JS xss), lo := false } ((l.t + 1) % 2) (hd P) = L := ⟨_, rfl⟩
  show LI { s with st := layS s.st A P, wt := [] } (setF { l with t := l.t + 1, rs := xss, en := A + fl (JS xss), lo := false } ((l.t + 1) % 2) (hd P)) _
  rw [hL] at b1 b2 b3 b4 b5 g1 g2 ⊢
  have b1' : L.rs = xss := b1
  have b3' : L.t = l.t + 1 := b3
  have b4' : L.en = A + fl (JS xss) := b4
  have g1' : L.f0 = if (l.t + 1) % 2 = 0 then hd P else l.f0 := g1
  have g2' : L.f1 = if (l.t + 1) % 2 = 0 then l.f1 else hd P := g2
  have hA2 : hfF s.n ((l.t + 1) % 2) = A ∧ hfT s.n ((l.t + 1) % 2) = hfT s.n (l.t + 1) := ⟨by rw [(hf_mod s.n (l.t + 1)).1, hA], (hf_mod s.n (l.t + 1)).2⟩
  have hnew : tk { s with st := layS s.st A P, wt := [] } A (hfT s.n (l.t + 1)) = some P := tk_lay r1 r2 (Nat.le_of_lt hf2) (by omega)
  have hold : ∀ i, i < 2 → i ≠ (l.t + 1) % 2 → tk { s with st := layS s.st A P, wt := [] } (hfF s.n i) (hfT s.n i) = tk s (hfF s.n i) (hfT s.n i) := by
    intro i hi hne
    have : i = l.t % 2 := by omega
    subst this
    rw [(hf_mod s.n l.t).1, (hf_mod s.n l.t).2]
    refine tk_half (by rcases hf_cases s.n l.t with ⟨c1, c2, c3⟩ | ⟨c1, c2, c3⟩ <;> omega) (fun j j1 j2 => ro j (hother.2 j j1 j2).1 (hother.2 j j1 j2).2)
  refine ⟨h.n64, b5, ?_, ?_, ⟨fun i hi hq => ?_, fun i T ys hi hq => ?_⟩, by rw [b1']; exact hR, fun hz => by rw [b3'] at hz; omega, fun _ => ⟨xss, [], ?_, by rw [b1', List.append_nil], ?_, ?_, ?_⟩⟩
  · show L.f0 = rdV { s with st := layS s.st A P, wt := [] } (hfF s.n 0 : Int)
    rw [g1']
    split
    · rename_i e
      have : hfF s.n 0 = A := by rw [← hA2.1, e]
      rw [this, r1]
    · rename_i e
      have e2 : l.t % 2 = 0 := by omega
      have : hfF s.n 0 = hfF s.n l.t := by rw [← (hf_mod s.n l.t).1, e2]
      rw [this, ro _ hother.1 (hother.2 _ (Nat.le_refl _) (by rcases hf_cases s.n l.t with ⟨c1, c2, c3⟩ | ⟨c1, c2, c3⟩ <;> omega)).2, ← this]
      exact h.e0
  · show L.f1 = rdV { s with st := layS s.st A P, wt := [] } (hfF s.n 1 : Int)
    rw [g2']
    split
    · rename_i e
      have e2 : l.t % 2 = 1 := by omega
      have : hfF s.n 1 = hfF s.n l.t := by rw [← (hf_mod s.n l.t).1, e2]
      rw [this, ro _ hother.1 (hother.2 _ (Nat.le_refl _) (by rcases hf_cases s.n l.t with ⟨c1, c2, c3⟩ | ⟨c1, c2, c3⟩ <;> omega)).2, ← this]
      exact h.e1
    · rename_i e
      have e3 : (l.t + 1) % 2 = 1 := by omega
      have : hfF s.n 1 = A := by rw [← hA2.1, e3]
      rw [this, r1]
  · unfold qs at hq
    split at hq
    · cases hq
    · rename_i e
      exact (h.hv.no i hi hq).imp (fun x => (hold i hi e).trans x) (fun x => (hold i hi e).trans x)
  · unfold qs at hq
    split at hq
    · rename_i e
      simp only [Option.some.injEq, Prod.mk.injEq] at hq
      obtain ⟨rfl, rfl⟩ := hq
      subst e
      refine ⟨?_, rfl, by omega, ht, hR⟩
      show tk { s with st := layS s.st A P, wt := [] } (hfF s.n ((l.t + 1) % 2)) (hfT s.n ((l.t + 1) % 2)) = _
      rw [hA2.1, hA2.2, hnew, hP]
    · rename_i e
      obtain ⟨a1, a2⟩ := h.hv.yes i T ys hi hq
      exact ⟨(hold i hi e).trans a1, a2⟩
  · rw [b3']; unfold qs; rw [if_pos rfl]
  · show Frs { s with st := layS s.st A P, wt := [] } (hfT s.n L.t) (hfF s.n L.t + fl (JN (L.t : Int) xss).length) [] L.en
    rw [b3', hA, hP, b4', hPl]
    exact rfl
  · show tk { s with st := layS s.st A P, wt := [] } L.en (hfT s.n L.t) = none
    rw [b4', ← hPl]
    exact blank_none r3 _
  · intro T' xs' hq
    rw [b3'] at hq ⊢
    unfold qs at hq
    rw [if_neg (by omega)] at hq
    by_cases h0 : l.t = 0
    · obtain ⟨z1, z2, -⟩ := h.z h0
      have : (l.t + 1 + 1) % 2 = 0 ∨ (l.t + 1 + 1) % 2 = 1 := by omega
      rcases this with e | e <;> rw [e] at hq
      · rw [z1] at hq; cases hq
      · rw [z2] at hq; cases hq
    · obtain ⟨xs, ns, h1, -⟩ := h.p h0
      rw [show (l.t + 1 + 1) % 2 = l.t % 2 by omega, h1] at hq
      simp only [Option.some.injEq, Prod.mk.injEq] at hq
      omega
/-- What is read of the disk is the log that lies there. -/
theorem LI.loaded {s : Dk} {l : Lo} {q : Nat → Option (Nat × List (List Int))} (h : LI s l q) {L' : Lo} (hL : LdR s (ldk l.g s q 2) L') : L' = l := by
  have n64 := h.n64
  have e0 := h.e0
  have e1 := h.e1
  have hlo := h.lo
  by_cases h0 : l.t = 0
  · obtain ⟨z1, z2, z3, z4⟩ := h.z h0
    have hk : ldk l.g s q 2 = l := by
      rw [ldk_succ, ldk_succ, z1, z2]
      show setF (setF (l0 l.g) 0 (rdV s (hfF s.n 0 : Int))) 1 (rdV s (hfF s.n 1 : Int)) = l
      rw [← e0, ← e1]
      obtain ⟨lg, lt, lf0, lf1, lrs, len, llo⟩ := l
      simp only at h0 z3 z4 hlo
      subst h0 z3 z4 hlo
      rfl
    rw [hk] at hL
    rcases hL with ⟨_, h2⟩ | ⟨h1, _⟩
    · exact h2
    · exact absurd h0 h1
  · obtain ⟨xs, ns, h1, h2, h3, h4, h5⟩ := h.p h0
    have hk : ldk l.g s q 2 = { l with rs := xs, en := hfF s.n l.t + fl (JN (l.t : Int) xs).length } := by
      rw [ldk_succ, ldk_succ]
      have hm := (hf_mod s.n l.t).1
      have : l.t % 2 = 0 ∨ l.t % 2 = 1 := by omega
      rcases this with e | e
      · rw [e] at h1 hm
        have e' : (l.t + 1) % 2 = 1 := by omega
        rw [e'] at h5
        rw [h1]
        have s1 : ldS (setF (ldk l.g s q 0) 0 (rdV s (hfF s.n 0 : Int))) (hfF s.n 0) (some (l.t, xs)) = { l0 l.g with f0 := l.f0, t := l.t, rs := xs, en := hfF s.n l.t + fl (JN (l.t : Int) xs).length } := by
          unfold ldS
          show (if 0 < l.t then _ else _) = _
          rw [if_pos (by omega), hm, ← hm, ← e0]
          rfl
        rw [s1, ← e1]
        have s2 : setF { l0 l.g with f0 := l.f0, t := l.t, rs := xs, en := hfF s.n l.t + fl (JN (l.t : Int) xs).length } 1 l.f1 = { l with rs := xs, en := hfF s.n l.t + fl (JN (l.t : Int) xs).length } := by
          show (⟨l.g, l.t, l.f0, l.f1, xs, hfF s.n l.t + fl (JN (l.t : Int) xs).length, false⟩ : Lo) = ⟨l.g, l.t, l.f0, l.f1, xs, hfF s.n l.t + fl (JN (l.t : Int) xs).length, l.lo⟩
          rw [hlo]
        rw [s2]
        cases hq : q 1 with
        | none => rfl
        | some y =>
          obtain ⟨T', xs'⟩ := y
          unfold ldS
          show (if l.t < T' then _ else _) = _
          rw [if_neg (by have := h5 T' xs' hq; omega)]
      · rw [e] at h1 hm
        have e' : (l.t + 1) % 2 = 0 := by omega
        rw [e'] at h5
        rw [h1]
        have s1 : ∃ T rs en, ldS (setF (ldk l.g s q 0) 0 (rdV s (hfF s.n 0 : Int))) (hfF s.n 0) (q 0) = { l0 l.g with f0 := l.f0, t := T, rs := rs, en := en } ∧ T < l.t := by
          rw [← e0]
          cases hq : q 0 with
          | none => exact ⟨0, [], 0, rfl, by omega⟩
          | some y =>
            obtain ⟨T', xs'⟩ := y
            have hT := h5 T' xs' hq
            unfold ldS
            by_cases hp : 0 < T'
            · exact ⟨T', xs', hfF s.n 0 + fl (JN (T' : Int) xs').length, by show (if 0 < T' then _ else _) = _; rw [if_pos hp]; rfl, hT⟩
            · exact ⟨0, [], 0, by show (if 0 < T' then _ else _) = _; rw [if_neg hp]; rfl, by omega⟩
        obtain ⟨T, rs, en, s1, hT⟩ := s1
        rw [s1, ← e1]
        have s2 : setF { l0 l.g with f0 := l.f0, t := T, rs := rs, en := en } 1 l.f1 = { l0 l.g with f0 := l.f0, f1 := l.f1, t := T, rs := rs, en := en } := rfl
        rw [s2]
        unfold ldS
        show (if T < l.t then _ else _) = _
        rw [if_pos hT, hm]
        show (⟨l.g, l.t, l.f0, l.f1, xs, hfF s.n l.t + fl (JN (l.t : Int) xs).length, false⟩ : Lo) = ⟨l.g, l.t, l.f0, l.f1, xs, hfF s.n l.t + fl (JN (l.t : Int) xs).length, l.lo⟩
        rw [hlo]
    rw [hk] at hL
    rcases hL with ⟨x, _⟩ | ⟨_, ms, e', f1, f2, rfl⟩
    · exact absurd x h0
    · obtain ⟨r1, r2⟩ := Frs.one h3 h4 f1 f2
      subst r1
      subst r2
      show ({ l with rs := xs ++ ns, en := l.en } : Lo) = l
      rw [← h2]
end Go.Proofs.YthfpakjfdncphaaDoor
