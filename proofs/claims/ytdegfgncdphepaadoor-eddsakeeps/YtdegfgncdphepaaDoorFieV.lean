/- Plain number theory: inverses modulo p. -/
import Derived.Test.YtdegfgncdphepaaDoorFieN
import Derived.Test.YtdegfgncdphepaaDoorFieJ
import Derived.Test.YtdegfgncdphepaaDoorFieT
namespace Go.Proofs.YtdegfgncdphepaaDoor
open Go
theorem pp_pos : 0 < pp := by decide
theorem sub_back (a b : Nat) : ((a + b) % pp + (pp - b % pp)) % pp = a % pp := by
  have hb := Nat.mod_lt b pp_pos
  rw [Nat.mod_add_mod, show a + b + (pp - b % pp) = a + (pp * (b / pp)) + pp by have := Nat.div_add_mod b pp; omega, Nat.add_mod_right, Nat.add_mul_mod_self_left]
theorem inv_one (a : Nat) (h : ¬ a % pp = 0) : a * (a ^ (pp - 2) % pp) % pp = 1 := by
  have hd : ¬ pp ∣ a := fun d => h (Nat.mod_eq_zero_of_dvd d)
  have f := prm.fermat hd
  rw [Nat.mul_mod_mod, Nat.mul_comm, ← Nat.pow_succ, show (pp - 2).succ = pp - 1 by decide]
  exact f
theorem inv_zero (a : Nat) (h : a % pp = 0) : a ^ (pp - 2) % pp = 0 := by
  obtain ⟨k, hk⟩ : ∃ k, pp - 2 = k + 1 := ⟨pp - 3, by decide⟩
  rw [hk, Nat.pow_succ, Nat.mul_mod, h, Nat.mul_zero, Nat.zero_mod]
theorem inv_inv (a : Nat) (h : ¬ a % pp = 0) : (a ^ (pp - 2) % pp) ^ (pp - 2) % pp = a % pp := by
  obtain ⟨i, hi⟩ : ∃ i, i = a ^ (pp - 2) % pp := ⟨_, rfl⟩
  have e1 := inv_one a h
  rw [← hi] at e1 ⊢
  have h0 : ¬ i % pp = 0 := fun h0 => by
    rw [Nat.mul_mod, h0, Nat.mul_zero, Nat.zero_mod] at e1
    exact absurd e1 (by decide)
  have e2 := inv_one i h0
  have : (a * (i * (i ^ (pp - 2) % pp))) % pp = a % pp := by rw [Nat.mul_mod, e2, Nat.mul_one, Nat.mod_mod]
  rw [← Nat.mul_assoc, Nat.mul_mod, e1, Nat.one_mul, Nat.mod_mod, Nat.mod_mod] at this
  exact this
end Go.Proofs.YtdegfgncdphepaaDoor
/- Plain number theory of roots modulo p: a square has a root, and it is one of two. No walk. -/
namespace Go.Proofs.YtdegfgncdphepaaDoor
open Go
theorem IN_sq : IN * IN % pp = pp - 1 := by decide
theorem pow_mod' (a k : Nat) : (a % pp) ^ k % pp = a ^ k % pp := (Nat.pow_mod a k pp).symm
/-- The power (p - 1) / 2 is 1 or -1. -/
theorem half_pow (a : Nat) (h : ¬ a % pp = 0) : a ^ ((pp - 1) / 2) % pp = 1 ∨ a ^ ((pp - 1) / 2) % pp = pp - 1 := by
  have hd : ¬ pp ∣ a := fun d => h (Nat.mod_eq_zero_of_dvd d)
  have f := prm.fermat hd
  obtain ⟨x, hx⟩ : ∃ x, x = a ^ ((pp - 1) / 2) % pp := ⟨_, rfl⟩
  have hlt : x < pp := by rw [hx]; exact Nat.mod_lt _ pp_pos
  have e : x * x % pp = 1 := by
    rw [hx, ← Nat.mul_mod, ← Nat.pow_add, show (pp - 1) / 2 + (pp - 1) / 2 = pp - 1 by decide]
    exact f
  rw [← hx]
  have h0 : x ≠ 0 := by
    intro h0
    rw [h0, Nat.zero_mul, Nat.zero_mod] at e
    exact absurd e (by decide)
  have d : pp ∣ (x - 1) * (x + 1) := by
    have e2 : (x - 1) * (x + 1) = x * x - 1 := by
      obtain ⟨y, rfl⟩ : ∃ y, x = y + 1 := ⟨x - 1, by omega⟩
      rw [Nat.add_sub_cancel, Nat.add_mul, Nat.mul_add, Nat.mul_add]; omega
    rw [e2]
    apply Nat.dvd_of_mod_eq_zero
    have hpos : 1 ≤ x * x := Nat.mul_pos (by omega) (by omega)
    exact Nat.sub_mod_eq_zero_of_mod_eq (by rw [e]; decide)
  rcases prm.euclid d with d | d
  · left
    have := Nat.eq_zero_of_dvd_of_lt d (by omega)
    omega
  · right
    have h2 := Nat.le_of_dvd (by omega) d
    omega
theorem rx_zero (q : Nat) (h : q % pp = 0) : rx q = 0 := by
  obtain ⟨k, hk⟩ : ∃ k, (pp + 3) / 8 = k + 1 := ⟨(pp + 3) / 8 - 1, by decide⟩
  unfold rx
  rw [hk, Nat.pow_succ, Nat.mul_mod, h, Nat.mul_zero, Nat.zero_mod]
/-- A square's root, squared, is the square. -/
theorem root_sq (a q : Nat) (hq : q = a * a % pp) : rt q * rt q % pp = q % pp := by
  have hql : q < pp := by rw [hq]; exact Nat.mod_lt _ pp_pos
  have hqm : q % pp = q := Nat.mod_eq_of_lt hql
  unfold rt
  split
  · assumption
  · rename_i hne
    by_cases h0 : a % pp = 0
    · exfalso
      refine hne ?_
      have q0 : q % pp = 0 := by rw [hqm, hq, Nat.mul_mod, h0, Nat.mul_zero, Nat.zero_mod]
      rw [rx_zero q q0, q0, Nat.zero_mul, Nat.zero_mod]
    · -- the first try's square
      have ex : rx q * rx q % pp = (a * a) * (a ^ ((pp - 1) / 2) % pp) % pp := by
        unfold rx
        rw [← Nat.mul_mod, ← Nat.pow_add, hq, pow_mod', ← Nat.pow_two, ← Nat.pow_mul, Nat.mul_mod_mod, ← Nat.pow_add]
        rw [show 2 * ((pp + 3) / 8 + (pp + 3) / 8) = 2 + (pp - 1) / 2 by decide]
      rcases half_pow a h0 with e | e
      · exfalso
        refine hne ?_
        rw [ex, e, Nat.mul_one, hqm, hq]
      · rw [← Nat.mul_mod, show rx q * IN * (rx q * IN) = (rx q * rx q) * (IN * IN) by rw [Nat.mul_mul_mul_comm], Nat.mul_mod, ex, IN_sq, e, Nat.mod_mul_mod, Nat.mul_assoc, Nat.mul_mod (a * a), show (pp - 1) * (pp - 1) % pp = 1 by decide, Nat.mul_one, Nat.mod_mod, hqm, hq]
theorem ev_lt (m : Nat) (h : m < pp) : ev m < pp := by
  unfold ev; split <;> omega
theorem ev_even (m : Nat) (h : m < pp) : ev m % 2 = 0 := by
  have : pp % 2 = 1 := by decide
  unfold ev; split <;> omega
theorem neg_sq (m : Nat) (h : m ≤ pp) : (pp - m) * (pp - m) % pp = m * m % pp := by
  obtain ⟨k, hk⟩ : ∃ k, k + m = pp := ⟨pp - m, by omega⟩
  have e1 : pp - m = k := by omega
  rw [e1]
  have e2 : k * k + pp * m = m * m + pp * k := by
    rw [← hk, Nat.add_mul, Nat.add_mul, Nat.mul_comm m k]; omega
  have := congrArg (· % pp) e2
  simp only [Nat.add_mul_mod_self_left] at this
  exact this
theorem ev_sq (m : Nat) (h : m < pp) : ev m * ev m % pp = m * m % pp := by
  unfold ev; split
  · exact neg_sq m (by omega)
  · rfl
/-- Two numbers with one square are the same or opposite. -/
theorem two_roots (r a : Nat) (hr : r < pp) (h : r * r % pp = a * a % pp) : r = a % pp ∨ r = (0 + (pp - a % pp)) % pp := by
  obtain ⟨b, hb⟩ : ∃ b, b = a % pp := ⟨_, rfl⟩
  have hbl : b < pp := by rw [hb]; exact Nat.mod_lt _ pp_pos
  have h2 : r * r % pp = b * b % pp := by rw [h, hb, ← Nat.mul_mod]
  rw [← hb, Nat.zero_add]
  obtain ⟨k, hk⟩ : ∃ k, k + b = pp := ⟨pp - b, by omega⟩
  have d : pp ∣ (r + b) * (r + k) := by
    apply Nat.dvd_of_mod_eq_zero
    have hkk : k = pp - b := by omega
    have e3 : (r + b) * (r + k) = r * r + pp * r + b * k := by
      rw [← hk, Nat.add_mul, Nat.mul_add, Nat.mul_add, Nat.add_mul, Nat.mul_comm r k]; omega
    have e4 : b * k + b * b = pp * b := by rw [← Nat.mul_add, hk, Nat.mul_comm]
    have e5 : (r * r + b * k) % pp = 0 := by
      rw [Nat.add_mod, h2, ← Nat.add_mod, Nat.add_comm, e4, Nat.mul_mod_right]
    rw [e3, show r * r + pp * r + b * k = (r * r + b * k) + pp * r by omega, Nat.add_mul_mod_self_left]
    exact e5
  rcases prm.euclid d with d | d
  · right
    by_cases h0 : r + b = 0
    · have hb0 : b = 0 := by omega
      have hr0 : r = 0 := by omega
      rw [hb0, hr0, Nat.sub_zero, Nat.mod_self]
    · have h3 := Nat.le_of_dvd (by omega) d
      obtain ⟨c, hc⟩ := d
      have hc1 : c = 1 := by
        have : c < 2 := by
          apply Nat.lt_of_mul_lt_mul_left (a := pp)
          omega
        rcases Nat.lt_or_ge c 1 with h4 | h4
        · have : c = 0 := by omega
          rw [this] at hc; omega
        · omega
      rw [hc1, Nat.mul_one] at hc
      rw [Nat.mod_eq_of_lt (by omega)]; omega
  · left
    have h3 := Nat.le_of_dvd (by omega) d
    obtain ⟨c, hc⟩ := d
    have hc1 : c = 1 := by
      have : c < 2 := by
        apply Nat.lt_of_mul_lt_mul_left (a := pp)
        omega
      rcases Nat.lt_or_ge c 1 with h4 | h4
      · have : c = 0 := by omega
        rw [this] at hc; omega
      · omega
    rw [hc1, Nat.mul_one] at hc
    omega
end Go.Proofs.YtdegfgncdphepaaDoor
/- Polynomial identities of the curve: the sum is on the curve, and it is associative. -/
namespace Go.Proofs.YtdegfgncdphepaaDoor
instance : NeZero pp := ⟨by decide⟩
/-- The numbers modulo p. -/
abbrev KK : Type := Fin pp
set_option linter.unusedVariables false
def assocX0_0 (d x1 y1 x2 y2 x3 y3 : KK) : KK := (-d*d*x1*x2*x2*x2*x2*x3*x3*y2*y2*y2*y3) + (-d*d*x1*x2*x2*x2*x3*y2*y2*y2*y2*y3*y3) + (d*d*x2*x2*x2*x2*x3*y1*y2*y2*y2*y3*y3) + (d*d*x2*x2*x2*x3*x3*y1*y2*y2*y2*y2*y3) + (-d*x1*x2*x2*x2*x2*x3*x3*y2*y3) + (-d*x1*x2*x2*x2*x3*x3*x3*y2*y2) + (-d*x1*x2*x2*x2*x3*y2*y2) + (d*x1*x2*x2*y2*y2*y2*y3*y3*y3)
def assocX0_1 (d x1 y1 x2 y2 x3 y3 : KK) : KK := (-d*x1*x2*x2*y2*y2*y2*y3) + (d*x1*x2*x3*y2*y2*y2*y2*y3*y3) + (d*x2*x2*x2*x2*x3*y1*y2*y3*y3) + (d*x2*x2*x2*y1*y2*y2*y3*y3*y3) + (-d*x2*x2*x2*y1*y2*y2*y3) + (-d*x2*x2*x3*x3*x3*y1*y2*y2*y2) + (-d*x2*x2*x3*y1*y2*y2*y2) + (-d*x2*x3*x3*y1*y2*y2*y2*y2*y3)
def assocX1_0 (d x1 y1 x2 y2 x3 y3 : KK) : KK := (d*d*x1*x1*x2*x2*x3*x3*x3*y1*y2*y3*y3) + (-d*d*x1*x1*x2*x3*x3*y1*y2*y2*y3*y3*y3) + (-d*d*x1*x2*x2*x3*x3*y1*y1*y2*y3*y3*y3) + (d*d*x1*x2*x3*x3*x3*y1*y1*y2*y2*y3*y3) + (d*x1*x1*x1*x2*x2*x3*x3*y2*y3) + (d*x1*x1*x1*x2*x3*x3*x3*y3*y3) + (d*x1*x1*x1*x2*x3*y2*y2*y3*y3) + (d*x1*x1*x1*x3*x3*y2*y3*y3*y3)
def assocX1_1 (d x1 y1 x2 y2 x3 y3 : KK) : KK := (-d*x1*x1*x2*x2*x3*y1*y2*y3*y3) + (-d*x1*x1*x2*x3*x3*y1*y2*y2*y3) + (d*x1*x1*x2*x3*x3*y1*y3*y3*y3) + (d*x1*x1*x3*x3*x3*y1*y2*y3*y3) + (-d*x1*x2*x2*x3*x3*y1*y1*y2*y3) + (d*x1*x2*x2*x3*x3*y2*y3) + (-d*x1*x2*x3*x3*x3*y1*y1*y3*y3) + (d*x1*x2*x3*x3*x3*y3*y3)
def assocX1_2 (d x1 y1 x2 y2 x3 y3 : KK) : KK := (-d*x1*x2*x3*y1*y1*y2*y2*y3*y3) + (d*x1*x2*x3*y2*y2*y3*y3) + (-d*x1*x3*x3*y1*y1*y2*y3*y3*y3) + (d*x1*x3*x3*y2*y3*y3*y3) + (d*x2*x2*x3*y1*y1*y1*y2*y3*y3) + (-d*x2*x2*x3*y1*y2*y3*y3) + (d*x2*x3*x3*y1*y1*y1*y2*y2*y3) + (-d*x2*x3*x3*y1*y1*y1*y3*y3*y3)
def assocX1_3 (d x1 y1 x2 y2 x3 y3 : KK) : KK := (-d*x2*x3*x3*y1*y2*y2*y3) + (d*x2*x3*x3*y1*y3*y3*y3) + (-d*x3*x3*x3*y1*y1*y1*y2*y3*y3) + (d*x3*x3*x3*y1*y2*y3*y3) + (x1*x1*x1*x2*x3*x3*x3) + (-x1*x1*x1*x2*x3*y3*y3) + (x1*x1*x1*x2*x3) + (x1*x1*x1*x3*x3*y2*y3)
def assocX1_4 (d x1 y1 x2 y2 x3 y3 : KK) : KK := (-x1*x1*x1*y2*y3*y3*y3) + (x1*x1*x1*y2*y3) + (x1*x1*x2*x3*x3*y1*y3) + (-x1*x1*x2*y1*y3*y3*y3) + (x1*x1*x2*y1*y3) + (x1*x1*x3*x3*x3*y1*y2) + (-x1*x1*x3*y1*y2*y3*y3) + (x1*x1*x3*y1*y2)
def assocX1_5 (d x1 y1 x2 y2 x3 y3 : KK) : KK := (-x1*x2*x3*x3*x3*y1*y1) + (x1*x2*x3*x3*x3) + (x1*x2*x3*y1*y1*y3*y3) + (-x1*x2*x3*y1*y1) + (-x1*x2*x3*y3*y3) + (x1*x2*x3) + (-x1*x3*x3*y1*y1*y2*y3) + (x1*x3*x3*y2*y3)
def assocX1_6 (d x1 y1 x2 y2 x3 y3 : KK) : KK := (x1*y1*y1*y2*y3*y3*y3) + (-x1*y1*y1*y2*y3) + (-x1*y2*y3*y3*y3) + (x1*y2*y3) + (-x2*x3*x3*y1*y1*y1*y3) + (x2*x3*x3*y1*y3) + (x2*y1*y1*y1*y3*y3*y3) + (-x2*y1*y1*y1*y3)
def assocX1_7 (d x1 y1 x2 y2 x3 y3 : KK) : KK := (-x2*y1*y3*y3*y3) + (x2*y1*y3) + (-x3*x3*x3*y1*y1*y1*y2) + (x3*x3*x3*y1*y2) + (x3*y1*y1*y1*y2*y3*y3) + (-x3*y1*y1*y1*y2) + (-x3*y1*y2*y3*y3) + (x3*y1*y2)
def assocX2_0 (d x1 y1 x2 y2 x3 y3 : KK) : KK := (-d*x1*x1*x2*x2*x3*y1*y2) + (d*x1*x1*x2*y1*y2*y2*y3) + (d*x1*x2*x2*y1*y1*y2*y3) + (-d*x1*x2*x3*y1*y1*y2*y2) + (-x1*x1*x1*x2*x2*x2*x3) + (-x1*x1*x1*x2*x2*y2*y3) + (x1*x1*x1*x2*x3*y2*y2) + (-x1*x1*x1*x2*x3)
def assocX2_1 (d x1 y1 x2 y2 x3 y3 : KK) : KK := (x1*x1*x1*y2*y2*y2*y3) + (-x1*x1*x1*y2*y3) + (-x1*x1*x2*x2*x2*y1*y3) + (-x1*x1*x2*x2*x3*y1*y2) + (x1*x1*x2*y1*y2*y2*y3) + (-x1*x1*x2*y1*y3) + (x1*x1*x3*y1*y2*y2*y2) + (-x1*x1*x3*y1*y2)
def assocX2_2 (d x1 y1 x2 y2 x3 y3 : KK) : KK := (x1*x2*x2*x2*x3*y1*y1) + (-x1*x2*x2*x2*x3) + (x1*x2*x2*y1*y1*y2*y3) + (-x1*x2*x2*y2*y3) + (-x1*x2*x3*y1*y1*y2*y2) + (x1*x2*x3*y1*y1) + (x1*x2*x3*y2*y2) + (-x1*x2*x3)
def assocX2_3 (d x1 y1 x2 y2 x3 y3 : KK) : KK := (-x1*y1*y1*y2*y2*y2*y3) + (x1*y1*y1*y2*y3) + (x1*y2*y2*y2*y3) + (-x1*y2*y3) + (x2*x2*x2*y1*y1*y1*y3) + (-x2*x2*x2*y1*y3) + (x2*x2*x3*y1*y1*y1*y2) + (-x2*x2*x3*y1*y2)
def assocX2_4 (d x1 y1 x2 y2 x3 y3 : KK) : KK := (-x2*y1*y1*y1*y2*y2*y3) + (x2*y1*y1*y1*y3) + (x2*y1*y2*y2*y3) + (-x2*y1*y3) + (-x3*y1*y1*y1*y2*y2*y2) + (x3*y1*y1*y1*y2) + (x3*y1*y2*y2*y2) + (-x3*y1*y2)
set_option maxHeartbeats 2000000 in
theorem assocX (d x1 y1 x2 y2 x3 y3 : KK) : ((x1*y2+x2*y1)*(1-(d*x1*x2*y1*y2))*y3+x3*(y1*y2+x1*x2)*(1+(d*x1*x2*y1*y2))) * ((1-(d*x3*x2*y3*y2)*(d*x3*x2*y3*y2))+d*(x3*y2+x2*y3)*(y3*y2+x3*x2)*x1*y1) - ((x3*y2+x2*y3)*(1-(d*x3*x2*y3*y2))*y1+x1*(y3*y2+x3*x2)*(1+(d*x3*x2*y3*y2))) * ((1-(d*x1*x2*y1*y2)*(d*x1*x2*y1*y2))+d*(x1*y2+x2*y1)*(y1*y2+x1*x2)*x3*y3) = (assocX0_0 d x1 y1 x2 y2 x3 y3 + assocX0_1 d x1 y1 x2 y2 x3 y3) * (y1*y1 - x1*x1 - 1 - d*(x1*x1*(y1*y1))) + (assocX1_0 d x1 y1 x2 y2 x3 y3 + assocX1_1 d x1 y1 x2 y2 x3 y3 + assocX1_2 d x1 y1 x2 y2 x3 y3 + assocX1_3 d x1 y1 x2 y2 x3 y3 + assocX1_4 d x1 y1 x2 y2 x3 y3 + assocX1_5 d x1 y1 x2 y2 x3 y3 + assocX1_6 d x1 y1 x2 y2 x3 y3 + assocX1_7 d x1 y1 x2 y2 x3 y3) * (y2*y2 - x2*x2 - 1 - d*(x2*x2*(y2*y2))) + (assocX2_0 d x1 y1 x2 y2 x3 y3 + assocX2_1 d x1 y1 x2 y2 x3 y3 + assocX2_2 d x1 y1 x2 y2 x3 y3 + assocX2_3 d x1 y1 x2 y2 x3 y3 + assocX2_4 d x1 y1 x2 y2 x3 y3) * (y3*y3 - x3*x3 - 1 - d*(x3*x3*(y3*y3))) := by
  simp only [assocX0_0, assocX0_1, assocX1_0, assocX1_1, assocX1_2, assocX1_3, assocX1_4, assocX1_5, assocX1_6, assocX1_7, assocX2_0, assocX2_1, assocX2_2, assocX2_3, assocX2_4]
  grind
def assocY0_0 (d x1 y1 x2 y2 x3 y3 : KK) : KK := (d*d*x1*x2*x2*x2*x2*x3*y2*y2*y2*y3*y3) + (d*d*x1*x2*x2*x2*x3*x3*y2*y2*y2*y2*y3) + (-d*d*x2*x2*x2*x2*x3*x3*y1*y2*y2*y2*y3) + (-d*d*x2*x2*x2*x3*y1*y2*y2*y2*y2*y3*y3) + (d*x1*x2*x2*x2*x2*x3*y2*y3*y3) + (d*x1*x2*x2*x2*y2*y2*y3*y3*y3) + (-d*x1*x2*x2*x2*y2*y2*y3) + (-d*x1*x2*x2*x3*x3*x3*y2*y2*y2)
def assocY0_1 (d x1 y1 x2 y2 x3 y3 : KK) : KK := (-d*x1*x2*x2*x3*y2*y2*y2) + (-d*x1*x2*x3*x3*y2*y2*y2*y2*y3) + (-d*x2*x2*x2*x2*x3*x3*y1*y2*y3) + (-d*x2*x2*x2*x3*x3*x3*y1*y2*y2) + (-d*x2*x2*x2*x3*y1*y2*y2) + (d*x2*x2*y1*y2*y2*y2*y3*y3*y3) + (-d*x2*x2*y1*y2*y2*y2*y3) + (d*x2*x3*y1*y2*y2*y2*y2*y3*y3)
def assocY1_0 (d x1 y1 x2 y2 x3 y3 : KK) : KK := (d*d*x1*x1*x2*x2*x3*x3*y1*y2*y3*y3*y3) + (-d*d*x1*x1*x2*x3*x3*x3*y1*y2*y2*y3*y3) + (-d*d*x1*x2*x2*x3*x3*x3*y1*y1*y2*y3*y3) + (d*d*x1*x2*x3*x3*y1*y1*y2*y2*y3*y3*y3) + (-d*x1*x1*x1*x2*x2*x3*y2*y3*y3) + (-d*x1*x1*x1*x2*x3*x3*y2*y2*y3) + (d*x1*x1*x1*x2*x3*x3*y3*y3*y3) + (d*x1*x1*x1*x3*x3*x3*y2*y3*y3)
def assocY1_1 (d x1 y1 x2 y2 x3 y3 : KK) : KK := (d*x1*x1*x2*x2*x3*x3*y1*y2*y3) + (d*x1*x1*x2*x3*x3*x3*y1*y3*y3) + (d*x1*x1*x2*x3*y1*y2*y2*y3*y3) + (d*x1*x1*x3*x3*y1*y2*y3*y3*y3) + (d*x1*x2*x2*x3*y1*y1*y2*y3*y3) + (-d*x1*x2*x2*x3*y2*y3*y3) + (d*x1*x2*x3*x3*y1*y1*y2*y2*y3) + (-d*x1*x2*x3*x3*y1*y1*y3*y3*y3)
def assocY1_2 (d x1 y1 x2 y2 x3 y3 : KK) : KK := (-d*x1*x2*x3*x3*y2*y2*y3) + (d*x1*x2*x3*x3*y3*y3*y3) + (-d*x1*x3*x3*x3*y1*y1*y2*y3*y3) + (d*x1*x3*x3*x3*y2*y3*y3) + (-d*x2*x2*x3*x3*y1*y1*y1*y2*y3) + (d*x2*x2*x3*x3*y1*y2*y3) + (-d*x2*x3*x3*x3*y1*y1*y1*y3*y3) + (d*x2*x3*x3*x3*y1*y3*y3)
def assocY1_3 (d x1 y1 x2 y2 x3 y3 : KK) : KK := (-d*x2*x3*y1*y1*y1*y2*y2*y3*y3) + (d*x2*x3*y1*y2*y2*y3*y3) + (-d*x3*x3*y1*y1*y1*y2*y3*y3*y3) + (d*x3*x3*y1*y2*y3*y3*y3) + (x1*x1*x1*x2*x3*x3*y3) + (-x1*x1*x1*x2*y3*y3*y3) + (x1*x1*x1*x2*y3) + (x1*x1*x1*x3*x3*x3*y2)
def assocY1_4 (d x1 y1 x2 y2 x3 y3 : KK) : KK := (-x1*x1*x1*x3*y2*y3*y3) + (x1*x1*x1*x3*y2) + (x1*x1*x2*x3*x3*x3*y1) + (-x1*x1*x2*x3*y1*y3*y3) + (x1*x1*x2*x3*y1) + (x1*x1*x3*x3*y1*y2*y3) + (-x1*x1*y1*y2*y3*y3*y3) + (x1*x1*y1*y2*y3)
def assocY1_5 (d x1 y1 x2 y2 x3 y3 : KK) : KK := (-x1*x2*x3*x3*y1*y1*y3) + (x1*x2*x3*x3*y3) + (x1*x2*y1*y1*y3*y3*y3) + (-x1*x2*y1*y1*y3) + (-x1*x2*y3*y3*y3) + (x1*x2*y3) + (-x1*x3*x3*x3*y1*y1*y2) + (x1*x3*x3*x3*y2)
def assocY1_6 (d x1 y1 x2 y2 x3 y3 : KK) : KK := (x1*x3*y1*y1*y2*y3*y3) + (-x1*x3*y1*y1*y2) + (-x1*x3*y2*y3*y3) + (x1*x3*y2) + (-x2*x3*x3*x3*y1*y1*y1) + (x2*x3*x3*x3*y1) + (x2*x3*y1*y1*y1*y3*y3) + (-x2*x3*y1*y1*y1)
def assocY1_7 (d x1 y1 x2 y2 x3 y3 : KK) : KK := (-x2*x3*y1*y3*y3) + (x2*x3*y1) + (-x3*x3*y1*y1*y1*y2*y3) + (x3*x3*y1*y2*y3) + (y1*y1*y1*y2*y3*y3*y3) + (-y1*y1*y1*y2*y3) + (-y1*y2*y3*y3*y3) + (y1*y2*y3)
def assocY2_0 (d x1 y1 x2 y2 x3 y3 : KK) : KK := (-d*x1*x1*x2*x2*y1*y2*y3) + (d*x1*x1*x2*x3*y1*y2*y2) + (d*x1*x2*x2*x3*y1*y1*y2) + (-d*x1*x2*y1*y1*y2*y2*y3) + (-x1*x1*x1*x2*x2*x2*y3) + (-x1*x1*x1*x2*x2*x3*y2) + (x1*x1*x1*x2*y2*y2*y3) + (-x1*x1*x1*x2*y3)
def assocY2_1 (d x1 y1 x2 y2 x3 y3 : KK) : KK := (x1*x1*x1*x3*y2*y2*y2) + (-x1*x1*x1*x3*y2) + (-x1*x1*x2*x2*x2*x3*y1) + (-x1*x1*x2*x2*y1*y2*y3) + (x1*x1*x2*x3*y1*y2*y2) + (-x1*x1*x2*x3*y1) + (x1*x1*y1*y2*y2*y2*y3) + (-x1*x1*y1*y2*y3)
def assocY2_2 (d x1 y1 x2 y2 x3 y3 : KK) : KK := (x1*x2*x2*x2*y1*y1*y3) + (-x1*x2*x2*x2*y3) + (x1*x2*x2*x3*y1*y1*y2) + (-x1*x2*x2*x3*y2) + (-x1*x2*y1*y1*y2*y2*y3) + (x1*x2*y1*y1*y3) + (x1*x2*y2*y2*y3) + (-x1*x2*y3)
def assocY2_3 (d x1 y1 x2 y2 x3 y3 : KK) : KK := (-x1*x3*y1*y1*y2*y2*y2) + (x1*x3*y1*y1*y2) + (x1*x3*y2*y2*y2) + (-x1*x3*y2) + (x2*x2*x2*x3*y1*y1*y1) + (-x2*x2*x2*x3*y1) + (x2*x2*y1*y1*y1*y2*y3) + (-x2*x2*y1*y2*y3)
def assocY2_4 (d x1 y1 x2 y2 x3 y3 : KK) : KK := (-x2*x3*y1*y1*y1*y2*y2) + (x2*x3*y1*y1*y1) + (x2*x3*y1*y2*y2) + (-x2*x3*y1) + (-y1*y1*y1*y2*y2*y2*y3) + (y1*y1*y1*y2*y3) + (y1*y2*y2*y2*y3) + (-y1*y2*y3)
set_option maxHeartbeats 2000000 in
theorem assocY (d x1 y1 x2 y2 x3 y3 : KK) : ((y1*y2+x1*x2)*(1+(d*x1*x2*y1*y2))*y3+(x1*y2+x2*y1)*(1-(d*x1*x2*y1*y2))*x3) * ((1-(d*x3*x2*y3*y2)*(d*x3*x2*y3*y2))-d*(x3*y2+x2*y3)*(y3*y2+x3*x2)*x1*y1) - ((y3*y2+x3*x2)*(1+(d*x3*x2*y3*y2))*y1+(x3*y2+x2*y3)*(1-(d*x3*x2*y3*y2))*x1) * ((1-(d*x1*x2*y1*y2)*(d*x1*x2*y1*y2))-d*(x1*y2+x2*y1)*(y1*y2+x1*x2)*x3*y3) = (assocY0_0 d x1 y1 x2 y2 x3 y3 + assocY0_1 d x1 y1 x2 y2 x3 y3) * (y1*y1 - x1*x1 - 1 - d*(x1*x1*(y1*y1))) + (assocY1_0 d x1 y1 x2 y2 x3 y3 + assocY1_1 d x1 y1 x2 y2 x3 y3 + assocY1_2 d x1 y1 x2 y2 x3 y3 + assocY1_3 d x1 y1 x2 y2 x3 y3 + assocY1_4 d x1 y1 x2 y2 x3 y3 + assocY1_5 d x1 y1 x2 y2 x3 y3 + assocY1_6 d x1 y1 x2 y2 x3 y3 + assocY1_7 d x1 y1 x2 y2 x3 y3) * (y2*y2 - x2*x2 - 1 - d*(x2*x2*(y2*y2))) + (assocY2_0 d x1 y1 x2 y2 x3 y3 + assocY2_1 d x1 y1 x2 y2 x3 y3 + assocY2_2 d x1 y1 x2 y2 x3 y3 + assocY2_3 d x1 y1 x2 y2 x3 y3 + assocY2_4 d x1 y1 x2 y2 x3 y3) * (y3*y3 - x3*x3 - 1 - d*(x3*x3*(y3*y3))) := by
  simp only [assocY0_0, assocY0_1, assocY1_0, assocY1_1, assocY1_2, assocY1_3, assocY1_4, assocY1_5, assocY1_6, assocY1_7, assocY2_0, assocY2_1, assocY2_2, assocY2_3, assocY2_4]
  grind
def close0_0 (d x1 y1 x2 y2 : KK) : KK := (d*d*d*x1*x1*x2*x2*x2*x2*y1*y1*y2*y2*y2*y2) + (-d*d*x1*x1*x2*x2*x2*x2*y2*y2*y2*y2) + (d*d*x2*x2*x2*x2*y1*y1*y2*y2*y2*y2) + (-d*d*x2*x2*x2*x2*y2*y2*y2*y2) + (-d*x1*x1*x2*x2*x2*x2*y2*y2) + (d*x1*x1*x2*x2*y2*y2*y2*y2) + (d*x2*x2*x2*x2*y1*y1*y2*y2) + (-2*d*x2*x2*x2*x2*y2*y2*y2*y2)
def close0_1 (d x1 y1 x2 y2 : KK) : KK := (-d*x2*x2*y1*y1*y2*y2*y2*y2) + (-2*d*x2*x2*y2*y2) + (-2*x2*x2*x2*x2*y2*y2) + (x2*x2*x2*x2) + (2*x2*x2*y2*y2*y2*y2) + (-4*x2*x2*y2*y2) + (y2*y2*y2*y2)
def close1_0 (d x1 y1 x2 y2 : KK) : KK := (d*x1*x1*x1*x1*x2*x2*y2*y2) + (2*d*x1*x1*x2*x2*y2*y2) + (d*x2*x2*y1*y1*y1*y1*y2*y2) + (-2*d*x2*x2*y1*y1*y2*y2) + (d*x2*x2*y2*y2) + (2*x1*x1*x2*x2*y2*y2) + (-x1*x1*x2*x2) + (x1*x1*y2*y2)
def close1_1 (d x1 y1 x2 y2 : KK) : KK := (-2*x2*x2*y1*y1*y2*y2) + (x2*x2*y1*y1) + (2*x2*x2*y2*y2) + (-x2*x2) + (-y1*y1*y2*y2) + (y2*y2) + (1)
theorem closeE (d x1 y1 x2 y2 : KK) : ((y1*y2+x1*x2)*(1+(d*x1*x2*y1*y2)))*((y1*y2+x1*x2)*(1+(d*x1*x2*y1*y2))) - ((x1*y2+x2*y1)*(1-(d*x1*x2*y1*y2)))*((x1*y2+x2*y1)*(1-(d*x1*x2*y1*y2))) - (1-(d*x1*x2*y1*y2)*(d*x1*x2*y1*y2))*(1-(d*x1*x2*y1*y2)*(d*x1*x2*y1*y2)) - d*((x1*y2+x2*y1)*(x1*y2+x2*y1)*((y1*y2+x1*x2)*(y1*y2+x1*x2))) = (close0_0 d x1 y1 x2 y2 + close0_1 d x1 y1 x2 y2) * (y1*y1 - x1*x1 - 1 - d*(x1*x1*(y1*y1))) + (close1_0 d x1 y1 x2 y2 + close1_1 d x1 y1 x2 y2) * (y2*y2 - x2*x2 - 1 - d*(x2*x2*(y2*y2))) := by
  simp only [close0_0, close0_1, close1_0, close1_1]
  grind
end Go.Proofs.YtdegfgncdphepaaDoor
