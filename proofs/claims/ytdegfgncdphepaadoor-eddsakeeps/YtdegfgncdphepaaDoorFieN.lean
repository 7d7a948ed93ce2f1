/- Plain number theory: Fermat's little theorem, Pocklington's test, and that 2^255 - 19 is a prime. No dump is read here. -/
import Derived.WalkKit
namespace Go.Proofs.YtdegfgncdphepaaDoor

/-- n is a prime. -/
def Prm (n : Nat) : Prop := 2 ≤ n ∧ ∀ d, d ∣ n → d = 1 ∨ d = n

theorem Prm.coprime {p a : Nat} (h : Prm p) (ha : ¬ p ∣ a) : Nat.gcd p a = 1 := by
  rcases h.2 (Nat.gcd p a) (Nat.gcd_dvd_left p a) with e | e
  · exact e
  · exact absurd (e ▸ Nat.gcd_dvd_right p a) ha

theorem Prm.euclid {p a b : Nat} (h : Prm p) (hd : p ∣ a * b) : p ∣ a ∨ p ∣ b := by
  by_cases ha : p ∣ a
  · exact Or.inl ha
  · exact Or.inr (Nat.Coprime.dvd_of_dvd_mul_left (h.coprime ha) hd)

/-- Binomial coefficients. -/
def ch : Nat → Nat → Nat
  | _, 0 => 1
  | 0, _ + 1 => 0
  | n + 1, k + 1 => ch n k + ch n (k + 1)

theorem ch_zero (n : Nat) : ch n 0 = 1 := by cases n <;> rfl
theorem ch_succ (n k : Nat) : ch (n + 1) (k + 1) = ch n k + ch n (k + 1) := rfl
theorem ch_over : ∀ n k, n < k → ch n k = 0
  | 0, k + 1, _ => rfl
  | n + 1, k + 1, h => by rw [ch_succ, ch_over n k (by omega), ch_over n (k + 1) (by omega)]
theorem ch_self : ∀ n, ch n n = 1
  | 0 => rfl
  | n + 1 => by rw [ch_succ, ch_self n, ch_over n (n + 1) (by omega)]
theorem ch_mul : ∀ n k, (k + 1) * ch (n + 1) (k + 1) = (n + 1) * ch n k
  | 0, 0 => rfl
  | 0, k + 1 => by rw [ch_succ, ch_over 0 (k + 1) (by omega), ch_over 0 (k + 1 + 1) (by omega)]; simp
  | n + 1, 0 => by
    have h := ch_mul n 0
    rw [ch_succ, ch_zero]; rw [ch_zero] at h; omega
  | n + 1, k + 1 => by
    have h1 := ch_mul n k
    have h2 := ch_mul n (k + 1)
    rw [ch_succ (n + 1) (k + 1), Nat.mul_add, h2, show k + 1 + 1 = (k + 1) + 1 from rfl, Nat.add_mul (k + 1) 1, h1, ch_succ n k]
    simp only [Nat.add_mul, Nat.mul_add]; omega

theorem Prm.dvd_ch {p k : Nat} (h : Prm p) (h0 : 0 < k) (hk : k < p) : p ∣ ch p k := by
  obtain ⟨p, rfl⟩ : ∃ q, p = q + 1 := ⟨p - 1, by omega⟩
  obtain ⟨k, rfl⟩ : ∃ q, k = q + 1 := ⟨k - 1, by omega⟩
  have e := ch_mul p k
  rcases h.euclid (a := k + 1) (b := ch (p + 1) (k + 1)) ⟨ch p k, e⟩ with d | d
  · exact absurd (Nat.le_of_dvd (by omega) d) (by omega)
  · exact d

/-- The sum of the first m terms of (1 + a)^n. -/
def bin (a n : Nat) : Nat → Nat
  | 0 => 0
  | m + 1 => bin a n m + ch n m * a ^ m

theorem bin_step (a n : Nat) : ∀ m, bin a (n + 1) (m + 1) = bin a n (m + 1) + a * bin a n m
  | 0 => by simp [bin, ch_zero]
  | m + 1 => by
    rw [bin, bin_step a n m, ch_succ, bin.eq_2 a n (m + 1), bin.eq_2 a n m, Nat.pow_succ]
    simp only [Nat.add_mul, Nat.mul_add]
    have : ch n m * (a ^ m * a) = a * (ch n m * a ^ m) := by rw [Nat.mul_comm a, Nat.mul_assoc]
    omega
theorem bin_all (a : Nat) : ∀ n, (1 + a) ^ n = bin a n (n + 1)
  | 0 => by simp [bin, ch]
  | n + 1 => by
    rw [bin_step, bin.eq_2 a n (n + 1), ch_over n (n + 1) (by omega), Nat.pow_succ, bin_all a n]
    rw [Nat.mul_add, Nat.mul_comm (bin a n (n + 1)) a]; omega

theorem Prm.bin_mod {p : Nat} (h : Prm p) (a : Nat) : ∀ m, m < p → bin a p (m + 1) % p = 1 % p
  | 0, _ => by simp [bin, ch_zero]
  | m + 1, hm => by
    rw [bin, Nat.add_mod, h.bin_mod a m (by omega), Nat.mul_mod, Nat.mod_eq_zero_of_dvd (h.dvd_ch (k := m + 1) (by omega) hm)]
    simp

theorem Prm.frob {p : Nat} (h : Prm p) : ∀ a, a ^ p % p = a % p
  | 0 => by rw [Nat.zero_pow (by have := h.1; omega)]
  | a + 1 => by
    obtain ⟨q, e⟩ : ∃ q, p = q + 1 := ⟨p - 1, by have := h.1; omega⟩
    rw [Nat.add_comm a 1, bin_all, bin, ch_self, Nat.one_mul, Nat.add_mod, h.frob a]
    have := h.bin_mod a q (by omega)
    rw [← e] at this
    rw [this, ← Nat.add_mod]

theorem Prm.fermat {p a : Nat} (h : Prm p) (ha : ¬ p ∣ a) : a ^ (p - 1) % p = 1 := by
  have hp := h.1
  have ha0 : 0 < a := by rcases Nat.eq_zero_or_pos a with e | e; · exact absurd (e ▸ Nat.dvd_zero p) ha
                         · exact e
  have e1 : a ^ p = a * a ^ (p - 1) := by
    rw [Nat.mul_comm, ← Nat.pow_succ]; congr 1; omega
  have hpos : 1 ≤ a ^ (p - 1) := Nat.pos_of_ne_zero (by have := Nat.pow_pos (n := p - 1) ha0; omega)
  have d : p ∣ a * (a ^ (p - 1) - 1) := by
    rw [Nat.mul_sub, Nat.mul_one, ← e1]
    have := h.frob a
    exact Nat.dvd_of_mod_eq_zero (Nat.sub_mod_eq_zero_of_mod_eq this)
  rcases h.euclid d with d | d
  · exact absurd d ha
  · obtain ⟨k, hk⟩ := d
    have : a ^ (p - 1) = 1 + p * k := by omega
    rw [this, Nat.add_mul_mod_self_left]
    exact Nat.mod_eq_of_lt (by omega)

theorem pow_gcd {x r : Nat} (m n : Nat) (hm : x ^ m % r = 1 % r) (hn : x ^ n % r = 1 % r) : x ^ Nat.gcd m n % r = 1 % r := by
  induction m, n using Nat.gcd.induction with
  | H0 n => simpa using hn
  | H1 m n hpos ih =>
    rw [Nat.gcd_rec]
    refine ih ?_ hm
    have e : x ^ n = (x ^ m) ^ (n / m) * x ^ (n % m) := by
      rw [← Nat.pow_mul, ← Nat.pow_add, Nat.div_add_mod]
    rw [e, Nat.mul_mod, Nat.pow_mod, hm, ← Nat.pow_mod, Nat.one_pow, ← Nat.mul_mod, Nat.one_mul] at hn
    exact hn

/-- A number that is no prime has a prime divisor whose square is not above it. -/
theorem least_factor : ∀ n, 2 ≤ n → ∃ r, Prm r ∧ r ∣ n ∧ (r * r ≤ n ∨ r = n) := by
  intro n hn
  have ex : ∃ d, 2 ≤ d ∧ d ∣ n := ⟨n, hn, Nat.dvd_refl n⟩
  -- the least such d
  have least : ∀ k, ∀ d, d ≤ k → 2 ≤ d → d ∣ n → ∃ r, 2 ≤ r ∧ r ∣ n ∧ ∀ e, 2 ≤ e → e ∣ n → r ≤ e := by
    intro k
    induction k with
    | zero => intro d h1 h2; omega
    | succ k ih =>
      intro d h1 h2 h3
      by_cases hh : ∃ e, 2 ≤ e ∧ e ∣ n ∧ e ≤ k
      · obtain ⟨e, e1, e2, e3⟩ := hh; exact ih e e3 e1 e2
      · refine ⟨d, h2, h3, fun e e1 e2 => ?_⟩
        by_cases hek : e ≤ k
        · exact absurd ⟨e, e1, e2, hek⟩ hh
        · omega
  obtain ⟨r, r2, rd, rl⟩ := least n n (Nat.le_refl n) hn (Nat.dvd_refl n)
  refine ⟨r, ⟨r2, fun d hd => ?_⟩, rd, ?_⟩
  · have hd0 : 0 < d := Nat.pos_of_dvd_of_pos hd (by omega)
    by_cases h1 : d = 1
    · exact Or.inl h1
    · have := rl d (by omega) (Nat.dvd_trans hd rd)
      have := Nat.le_of_dvd (by omega) hd
      exact Or.inr (by omega)
  · obtain ⟨c, hc⟩ := rd
    by_cases hc1 : c = 1
    · right; rw [hc, hc1, Nat.mul_one]
    · left
      have hc0 : c ≠ 0 := by rintro rfl; omega
      have := rl c (by omega) ⟨r, by rw [hc, Nat.mul_comm]⟩
      rw [hc]; exact Nat.mul_le_mul_left r this

/-- Pocklington's test with one prime q of N - 1 = q R, and the few divisors 1 + q s that are left tried one by one. -/
theorem pocklington {N q R a B : Nat} (hq : Prm q) (hN : N = q * R + 1) (hR : 0 < R) (h1 : a ^ (q * R) % N = 1) (h2 : Nat.gcd (a ^ R % N + (N - 1)) N = 1)
    (hB : N < (q * (B + 1) + 1) * (q * (B + 1) + 1)) (ht : ∀ s, s < B → N % (q * (s + 1) + 1) ≠ 0) : Prm N := by
  have hq2 := hq.1
  have hqR : 0 < q * R := Nat.mul_pos (by omega) hR
  obtain ⟨r, hr, hrd, hl⟩ := least_factor N (by omega)
  rcases hl with hl | hl
  · exfalso
    have r2 := hr.1
    obtain ⟨c, hc⟩ := hrd
    have red : ∀ y z : Nat, y % N = z % N → y % r = z % r := fun y z e => by
      have := congrArg (· % r) e
      simp only [hc, Nat.mod_mul_right_mod] at this
      exact this
    have one : 1 % r = 1 := Nat.mod_eq_of_lt (by omega)
    have hx : (a ^ R) ^ q % r = 1 % r := by
      rw [← Nat.pow_mul, Nat.mul_comm R q]
      exact red _ _ (by rw [h1]; exact (Nat.mod_eq_of_lt (by omega)).symm)
    have hn1 : ¬ a ^ R % r = 1 % r := by
      intro e
      have d : r ∣ Nat.gcd (a ^ R % N + (N - 1)) N := by
        refine Nat.dvd_gcd ?_ ⟨c, hc⟩
        apply Nat.dvd_of_mod_eq_zero
        have e2 : a ^ R % N % r = a ^ R % r := by rw [hc, Nat.mod_mul_right_mod]
        rw [Nat.add_mod, e2, e, ← Nat.add_mod, show 1 + (N - 1) = r * c by omega]
        exact Nat.mul_mod_right r c
      rw [h2] at d
      have := Nat.le_of_dvd (by omega) d
      omega
    have hnd : ¬ r ∣ a ^ R := by
      intro d
      have : (a ^ R) ^ q % r = 0 := by
        rw [Nat.pow_mod, Nat.mod_eq_zero_of_dvd d, Nat.zero_pow (by omega), Nat.zero_mod]
      omega
    have hf := hr.fermat hnd
    have hg := pow_gcd q (r - 1) hx (hf.trans one.symm)
    rcases hq.2 _ (Nat.gcd_dvd_left q (r - 1)) with e | e
    · rw [e, Nat.pow_one] at hg; exact hn1 hg
    · have d := Nat.gcd_dvd_right q (r - 1)
      rw [e] at d
      obtain ⟨s, hs⟩ := d
      have hs0 : s ≠ 0 := by rintro rfl; omega
      by_cases hsB : s ≤ B
      · refine ht (s - 1) (by omega) ?_
        rw [show s - 1 + 1 = s by omega, ← hs, show r - 1 + 1 = r by omega, hc]
        exact Nat.mul_mod_right r c
      · have m : q * (B + 1) ≤ q * s := Nat.mul_le_mul_left q (by omega)
        have : (q * (B + 1) + 1) * (q * (B + 1) + 1) ≤ r * r := Nat.mul_le_mul (by omega) (by omega)
        omega
  · exact hl ▸ hr

/-- Powers by halving, so that the kernel can reckon them. -/
def pw (N : Nat) : Nat → Nat → Nat → Nat
  | 0, _, _ => 1 % N
  | f + 1, a, e => if e = 0 then 1 % N else if e % 2 = 1 then a * pw N f (a * a % N) (e / 2) % N else pw N f (a * a % N) (e / 2)
theorem pw_eq (N : Nat) : ∀ f a e, e < 2 ^ f → pw N f a e = a ^ e % N
  | 0, a, e, h => by have : e = 0 := by simpa using h
                     subst this; rfl
  | f + 1, a, e, h => by
    have hh : e / 2 < 2 ^ f := by rw [Nat.pow_succ] at h; omega
    have hm : (a * a % N) ^ (e / 2) % N = (a * a) ^ (e / 2) % N := (Nat.pow_mod _ _ _).symm
    rw [pw, pw_eq N f _ _ hh, hm, ← Nat.pow_two, ← Nat.pow_mul]
    split
    · subst_vars; rfl
    · split
      · rw [Nat.mul_mod, Nat.mod_mod, ← Nat.mul_mod, Nat.mul_comm a, ← Nat.pow_succ]; congr 2; omega
      · congr 2; omega

theorem prm_small {n : Nat} (B : Nat) (h2 : 2 ≤ n) (hB : n < (B + 2) * (B + 2)) (ht : (List.range B).all (fun s => n % (s + 2) != 0) = true) : Prm n := by
  obtain ⟨r, hr, hrd, hl⟩ := least_factor n h2
  rcases hl with hl | hl
  · exfalso
    have r2 := hr.1
    by_cases hrB : r < B + 2
    · have := List.all_eq_true.1 ht (r - 2) (List.mem_range.2 (by omega))
      rw [show r - 2 + 2 = r by omega, Nat.mod_eq_zero_of_dvd hrd] at this
      exact absurd this (by decide)
    · have : (B + 2) * (B + 2) ≤ r * r := Nat.mul_le_mul (by omega) (by omega)
      omega
  · exact hl ▸ hr

theorem prm_pock {N q R B : Nat} (f a : Nat) (hq : Prm q)
    (hc : (N == q * R + 1 && (R != 0 && (decide (q * R < 2 ^ f) && (pw N f a (q * R) == 1 && (Nat.gcd (pw N f a R + (N - 1)) N == 1 && (decide (N < (q * (B + 1) + 1) * (q * (B + 1) + 1)) && (List.range B).all (fun s => N % (q * (s + 1) + 1) != 0))))))) = true) : Prm N := by
  simp only [Bool.and_eq_true, beq_iff_eq, bne_iff_ne, decide_eq_true_eq] at hc
  obtain ⟨h0, hR, hf, h1, h2, hB, ht⟩ := hc
  have hq2 := hq.1
  have hRf : R < 2 ^ f := Nat.lt_of_le_of_lt (Nat.le_mul_of_pos_left R (by omega)) hf
  rw [pw_eq N f a _ hf] at h1
  rw [pw_eq N f a _ hRf] at h2
  refine pocklington hq h0 (by omega) h1 h2 hB fun s hs => ?_
  have := List.all_eq_true.1 ht s (List.mem_range.2 hs)
  simpa using this

theorem prm4 : Prm 8574133 := prm_small 2928 (by decide) (by decide) (by decide +kernel)
theorem prm3 : Prm 1919519569386763 := prm_pock (q := 8574133) (R := 223873314) (B := 5) 64 2 prm4 (by decide +kernel)
theorem prm2 : Prm 75445702479781427272750846543864801 := prm_pock (q := 1919519569386763) (R := 39304471641247389600) (B := 143) 128 2 prm3 (by decide +kernel)
theorem prm1 : Prm 74058212732561358302231226437062788676166966415465897661863160754340907 := prm_pock (q := 75445702479781427272750846543864801) (R := 981609426360740691344999861639072106) (B := 3) 256 2 prm2 (by decide +kernel)
/-- The field's number. -/
def pp : Nat := 57896044618658097711785492504343953926634992332820282019728792003956564819949
theorem prm : Prm pp := prm_pock (q := 74058212732561358302231226437062788676166966415465897661863160754340907) (R := 781764) (B := 0) 256 2 prm1 (by decide +kernel)
end Go.Proofs.YtdegfgncdphepaaDoor
