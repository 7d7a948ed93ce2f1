/- Plain number theory: Fermat's little theorem, Pocklington's test, and that 2^255 - 19 is a prime. No dump is read here. -/
import Derived.WalkKit
import Derived.Test.YtmaehekekkfpmaaDoorFieC
set_option linter.unusedSimpArgs false
set_option linter.unusedVariables false
namespace Go.Proofs.YtmaehekekkfpmaaDoor

/-- n is a prime. -/
def Prm (n : Nat) : Prop := 2 ≤ n ∧ ∀ d, d ∣ n → d = 1 ∨ d = n

theorem Prm.coprime {p a : Nat} (h : Prm p) (ha : ¬ p ∣ a) : Nat.gcd p a = 1 := by
  rcases h.2 (Nat.gcd p a) (Nat.gcd_dvd_left p a) with e | e
  · exact e
  · exact absurd (e ▸ Nat.gcd_dvd_right p a) ha

theorem Prm.euclid {p a b : Nat} (h : Prm p) (hd : p ∣ a * b) : p ∣ a ∨ p ∣ b := by
  by_cases ha : p ∣ a
  · exact Or.inl ha
  · exact Or.inr (Nat.Coprime.dvd_of_dvd_mul_left (h.coprime ha) hd)

/-- Binomial coefficients. -/
def ch : Nat → Nat → Nat
  | _, 0 => 1
  | 0, _ + 1 => 0
  | n + 1, k + 1 => ch n k + ch n (k + 1)

theorem ch_zero (n : Nat) : ch n 0 = 1 := by cases n <;> rfl
theorem ch_succ (n k : Nat) : ch (n + 1) (k + 1) = ch n k + ch n (k + 1) := rfl
theorem ch_over : ∀ n k, n < k → ch n k = 0
  | 0, k + 1, _ => rfl
  | n + 1, k + 1, h => by rw [ch_succ, ch_over n k (by omega), ch_over n (k + 1) (by omega)]
theorem ch_self : ∀ n, ch n n = 1
  | 0 => rfl
  | n + 1 => by rw [ch_succ, ch_self n, ch_over n (n + 1) (by omega)]
theorem ch_mul : ∀ n k, (k + 1) * ch (n + 1) (k + 1) = (n + 1) * ch n k
  | 0, 0 => rfl
  | 0, k + 1 => by rw [ch_succ, ch_over 0 (k + 1) (by omega), ch_over 0 (k + 1 + 1) (by omega)]; simp
  | n + 1, 0 => by
    have h := ch_mul n 0
    rw [ch_succ, ch_zero]; rw [ch_zero] at h; omega
  | n + 1, k + 1 => by
    have h1 := ch_mul n k
    have h2 := ch_mul n (k + 1)
    rw [ch_succ (n + 1) (k + 1), Nat.mul_add, h2, show k + 1 + 1 = (k + 1) + 1 from rfl, Nat.add_mul (k + 1) 1, h1, ch_succ n k]
    simp only [Nat.add_mul, Nat.mul_add]; omega

theorem Prm.dvd_ch {p k : Nat} (h : Prm p) (h0 : 0 < k) (hk : k < p) : p ∣ ch p k := by
  obtain ⟨p, rfl⟩ : ∃ q, p = q + 1 := ⟨p - 1, by omega⟩
  obtain ⟨k, rfl⟩ : ∃ q, k = q + 1 := ⟨k - 1, by omega⟩
  have e := ch_mul p k
  rcases h.euclid (a := k + 1) (b := ch (p + 1) (k + 1)) ⟨ch p k, e⟩ with d | d
  · exact absurd (Nat.le_of_dvd (by omega) d) (by omega)
  · exact d

/-- The sum of the first m terms of (1 + a)^n. -/
def bin (a n : Nat) : Nat → Nat
  | 0 => 0
  | m + 1 => bin a n m + ch n m * a ^ m

theorem bin_step (a n : Nat) : ∀ m, bin a (n + 1) (m + 1) = bin a n (m + 1) + a * bin a n m
  | 0 => by simp [bin, ch_zero]
  | m + 1 => by
    rw [bin, bin_step a n m, ch_succ, bin.eq_2 a n (m + 1), bin.eq_2 a n m, Nat.pow_succ]
    simp only [Nat.add_mul, Nat.mul_add]
    have : ch n m * (a ^ m * a) = a * (ch n m * a ^ m) := by rw [Nat.mul_comm a, Nat.mul_assoc]
    omega
theorem bin_all (a : Nat) : ∀ n, (1 + a) ^ n = bin a n (n + 1)
  | 0 => by simp [bin, ch]
  | n + 1 => by
    rw [bin_step, bin.eq_2 a n (n + 1), ch_over n (n + 1) (by omega), Nat.pow_succ, bin_all a n]
    rw [Nat.mul_add, Nat.mul_comm (bin a n (n + 1)) a]; omega

theorem Prm.bin_mod {p : Nat} (h : Prm p) (a : Nat) : ∀ m, m < p → bin a p (m + 1) % p = 1 % p
  | 0, _ => by simp [bin, ch_zero]
  | m + 1, hm => by
    rw [bin, Nat.add_mod, h.bin_mod a m (by omega), Nat.mul_mod, Nat.mod_eq_zero_of_dvd (h.dvd_ch (k := m + 1) (by omega) hm)]
    simp

theorem Prm.frob {p : Nat} (h : Prm p) : ∀ a, a ^ p % p = a % p
  | 0 => by rw [Nat.zero_pow (by have := h.1; omega)]
  | a + 1 => by
    obtain ⟨q, e⟩ : ∃ q, p = q + 1 := ⟨p - 1, by have := h.1; omega⟩
    rw [Nat.add_comm a 1, bin_all, bin, ch_self, Nat.one_mul, Nat.add_mod, h.frob a]
    have := h.bin_mod a q (by omega)
    rw [← e] at this
    rw [this, ← Nat.add_mod]

theorem Prm.fermat {p a : Nat} (h : Prm p) (ha : ¬ p ∣ a) : a ^ (p - 1) % p = 1 := by
  have hp := h.1
  have ha0 : 0 < a := by rcases Nat.eq_zero_or_pos a with e | e; · exact absurd (e ▸ Nat.dvd_zero p) ha
                         · exact e
  have e1 : a ^ p = a * a ^ (p - 1) := by
    rw [Nat.mul_comm, ← Nat.pow_succ]; congr 1; omega
  have hpos : 1 ≤ a ^ (p - 1) := Nat.pos_of_ne_zero (by have := Nat.pow_pos (n := p - 1) ha0; omega)
  have d : p ∣ a * (a ^ (p - 1) - 1) := by
    rw [Nat.mul_sub, Nat.mul_one, ← e1]
    have := h.frob a
    exact Nat.dvd_of_mod_eq_zero (Nat.sub_mod_eq_zero_of_mod_eq this)
  rcases h.euclid d with d | d
  · exact absurd d ha
  · obtain ⟨k, hk⟩ := d
    have : a ^ (p - 1) = 1 + p * k := by omega
    rw [this, Nat.add_mul_mod_self_left]
    exact Nat.mod_eq_of_lt (by omega)

theorem pow_gcd {x r : Nat} (m n : Nat) (hm : x ^ m % r = 1 % r) (hn : x ^ n % r = 1 % r) : x ^ Nat.gcd m n % r = 1 % r := by
  induction m, n using Nat.gcd.induction with
  | H0 n => simpa using hn
  | H1 m n hpos ih =>
    rw [Nat.gcd_rec]
    refine ih ?_ hm
    have e : x ^ n = (x ^ m) ^ (n / m) * x ^ (n % m) := by
      rw [← Nat.pow_mul, ← Nat.pow_add, Nat.div_add_mod]
    rw [e, Nat.mul_mod, Nat.pow_mod, hm, ← Nat.pow_mod, Nat.one_pow, ← Nat.mul_mod, Nat.one_mul] at hn
    exact hn

/-- A number that is no prime has a prime divisor whose square is not above it. -/
theorem least_factor : ∀ n, 2 ≤ n → ∃ r, Prm r ∧ r ∣ n ∧ (r * r ≤ n ∨ r = n) := by
  intro n hn
  have ex : ∃ d, 2 ≤ d ∧ d ∣ n := ⟨n, hn, Nat.dvd_refl n⟩
  -- the least such d
  have least : ∀ k, ∀ d, d ≤ k → 2 ≤ d → d ∣ n → ∃ r, 2 ≤ r ∧ r ∣ n ∧ ∀ e, 2 ≤ e → e ∣ n → r ≤ e := by
    intro k
    induction k with
    | zero => intro d h1 h2; omega
    | succ k ih =>
      intro d h1 h2 h3
      by_cases hh : ∃ e, 2 ≤ e ∧ e ∣ n ∧ e ≤ k
      · obtain ⟨e, e1, e2, e3⟩ := hh; exact ih e e3 e1 e2
      · refine ⟨d, h2, h3, fun e e1 e2 => ?_⟩
        by_cases hek : e ≤ k
        · exact absurd ⟨e, e1, e2, hek⟩ hh
        · omega
  obtain ⟨r, r2, rd, rl⟩ := least n n (Nat.le_refl n) hn (Nat.dvd_refl n)
  refine ⟨r, ⟨r2, fun d hd => ?_⟩, rd, ?_⟩
  · have hd0 : 0 < d := Nat.pos_of_dvd_of_pos hd (by omega)
    by_cases h1 : d = 1
    · exact Or.inl h1
    · have := rl d (by omega) (Nat.dvd_trans hd rd)
      have := Nat.le_of_dvd (by omega) hd
      exact Or.inr (by omega)
  · obtain ⟨c, hc⟩ := rd
    by_cases hc1 : c = 1
    · right; rw [hc, hc1, Nat.mul_one]
    · left
      have hc0 : c ≠ 0 := by rintro rfl; omega
      have := rl c (by omega) ⟨r, by rw [hc, Nat.mul_comm]⟩
      rw [hc]; exact Nat.mul_le_mul_left r this

/-- Pocklington's test with one prime q of N - 1 = q R, and the few divisors 1 + q s that are left tried one by one. -/
theorem pocklington {N q R a B : Nat} (hq : Prm q) (hN : N = q * R + 1) (hR : 0 < R) (h1 : a ^ (q * R) % N = 1) (h2 : Nat.gcd (a ^ R % N + (N - 1)) N = 1)
    (hB : N < (q * (B + 1) + 1) * (q * (B + 1) + 1)) (ht : ∀ s, s < B → N % (q * (s + 1) + 1) ≠ 0) : Prm N := by
  have hq2 := hq.1
  have hqR : 0 < q * R := Nat.mul_pos (by omega) hR
  obtain ⟨r, hr, hrd, hl⟩ := least_factor N (by omega)
  rcases hl with hl | hl
  · exfalso
    have r2 := hr.1
    obtain ⟨c, hc⟩ := hrd
    have red : ∀ y z : Nat, y % N = z % N → y % r = z % r := fun y z e => by
      have := congrArg (· % r) e
      simp only [hc, Nat.mod_mul_right_mod] at this
      exact this
    have one : 1 % r = 1 := Nat.mod_eq_of_lt (by omega)
    have hx : (a ^ R) ^ q % r = 1 % r := by
      rw [← Nat.pow_mul, Nat.mul_comm R q]
      exact red _ _ (by rw [h1]; exact (Nat.mod_eq_of_lt (by omega)).symm)
    have hn1 : ¬ a ^ R % r = 1 % r := by
      intro e
      have d : r ∣ Nat.gcd (a ^ R % N + (N - 1)) N := by
        refine Nat.dvd_gcd ?_ ⟨c, hc⟩
        apply Nat.dvd_of_mod_eq_zero
        have e2 : a ^ R % N % r = a ^ R % r := by rw [hc, Nat.mod_mul_right_mod]
        rw [Nat.add_mod, e2, e, ← Nat.add_mod, show 1 + (N - 1) = r * c by omega]
        exact Nat.mul_mod_right r c
      rw [h2] at d
      have := Nat.le_of_dvd (by omega) d
      omega
    have hnd : ¬ r ∣ a ^ R := by
      intro d
      have : (a ^ R) ^ q % r = 0 := by
        rw [Nat.pow_mod, Nat.mod_eq_zero_of_dvd d, Nat.zero_pow (by omega), Nat.zero_mod]
      omega
    have hf := hr.fermat hnd
    have hg := pow_gcd q (r - 1) hx (hf.trans one.symm)
    rcases hq.2 _ (Nat.gcd_dvd_left q (r - 1)) with e | e
    · rw [e, Nat.pow_one] at hg; exact hn1 hg
    · have d := Nat.gcd_dvd_right q (r - 1)
      rw [e] at d
      obtain ⟨s, hs⟩ := d
      have hs0 : s ≠ 0 := by rintro rfl; omega
      by_cases hsB : s ≤ B
      · refine ht (s - 1) (by omega) ?_
        rw [show s - 1 + 1 = s by omega, ← hs, show r - 1 + 1 = r by omega, hc]
        exact Nat.mul_mod_right r c
      · have m : q * (B + 1) ≤ q * s := Nat.mul_le_mul_left q (by omega)
        have : (q * (B + 1) + 1) * (q * (B + 1) + 1) ≤ r * r := Nat.mul_le_mul (by omega) (by omega)
        omega
  · exact hl ▸ hr

/-- Powers by halving, so that the kernel can reckon them. -/
def pw (N : Nat) : Nat → Nat → Nat → Nat
  | 0, _, _ => 1 % N
  | f + 1, a, e => if e = 0 then 1 % N else if e % 2 = 1 then a * pw N f (a * a % N) (e / 2) % N else pw N f (a * a % N) (e / 2)
theorem pw_eq (N : Nat) : ∀ f a e, e < 2 ^ f → pw N f a e = a ^ e % N
  | 0, a, e, h => by have : e = 0 := by simpa using h
                     subst this; rfl
  | f + 1, a, e, h => by
    have hh : e / 2 < 2 ^ f := by rw [Nat.pow_succ] at h; omega
    have hm : (a * a % N) ^ (e / 2) % N = (a * a) ^ (e / 2) % N := (Nat.pow_mod _ _ _).symm
    rw [pw, pw_eq N f _ _ hh, hm, ← Nat.pow_two, ← Nat.pow_mul]
    split
    · subst_vars; rfl
    · split
      · rw [Nat.mul_mod, Nat.mod_mod, ← Nat.mul_mod, Nat.mul_comm a, ← Nat.pow_succ]; congr 2; omega
      · congr 2; omega

theorem prm_small {n : Nat} (B : Nat) (h2 : 2 ≤ n) (hB : n < (B + 2) * (B + 2)) (ht : (List.range B).all (fun s => n % (s + 2) != 0) = true) : Prm n := by
  obtain ⟨r, hr, hrd, hl⟩ := least_factor n h2
  rcases hl with hl | hl
  · exfalso
    have r2 := hr.1
    by_cases hrB : r < B + 2
    · have := List.all_eq_true.1 ht (r - 2) (List.mem_range.2 (by omega))
      rw [show r - 2 + 2 = r by omega, Nat.mod_eq_zero_of_dvd hrd] at this
      exact absurd this (by decide)
    · have : (B + 2) * (B + 2) ≤ r * r := Nat.mul_le_mul (by omega) (by omega)
      omega
  · exact hl ▸ hr

theorem prm_pock {N q R B : Nat} (f a : Nat) (hq : Prm q)
    (hc : (N == q * R + 1 && (R != 0 && (decide (q * R < 2 ^ f) && (pw N f a (q * R) == 1 && (Nat.gcd (pw N f a R + (N - 1)) N == 1 && (decide (N < (q * (B + 1) + 1) * (q * (B + 1) + 1)) && (List.range B).all (fun s => N % (q * (s + 1) + 1) != 0))))))) = true) : Prm N := by
  simp only [Bool.and_eq_true, beq_iff_eq, bne_iff_ne, decide_eq_true_eq] at hc
  obtain ⟨h0, hR, hf, h1, h2, hB, ht⟩ := hc
  have hq2 := hq.1
  have hRf : R < 2 ^ f := Nat.lt_of_le_of_lt (Nat.le_mul_of_pos_left R (by omega)) hf
  rw [pw_eq N f a _ hf] at h1
  rw [pw_eq N f a _ hRf] at h2
  refine pocklington hq h0 (by omega) h1 h2 hB fun s hs => ?_
  have := List.all_eq_true.1 ht s (List.mem_range.2 hs)
  simpa using this

theorem prm4 : Prm 8574133 := prm_small 2928 (by decide) (by decide) (by decide +kernel)
theorem prm3 : Prm 1919519569386763 := prm_pock (q := 8574133) (R := 223873314) (B := 5) 64 2 prm4 (by decide +kernel)
theorem prm2 : Prm 75445702479781427272750846543864801 := prm_pock (q := 1919519569386763) (R := 39304471641247389600) (B := 143) 128 2 prm3 (by decide +kernel)
theorem prm1 : Prm 74058212732561358302231226437062788676166966415465897661863160754340907 := prm_pock (q := 75445702479781427272750846543864801) (R := 981609426360740691344999861639072106) (B := 3) 256 2 prm2 (by decide +kernel)
/-- The field's number. -/
def pp : Nat := 57896044618658097711785492504343953926634992332820282019728792003956564819949
theorem prm : Prm pp := prm_pock (q := 74058212732561358302231226437062788676166966415465897661863160754340907) (R := 781764) (B := 0) 256 2 prm1 (by decide +kernel)
end Go.Proofs.YtmaehekekkfpmaaDoor
/- Package field: 32 bytes and numbers: word, putWord, load, store. -/
namespace Go.Proofs.YtmaehekekkfpmaaDoor
open Go Go.RowKit Go.Lib
def lw (n k:Nat):Int:=((n/18446744073709551616 ^ k % 18446744073709551616:Nat):Int)
def by8 (n i:Nat):Int:=((n/256 ^ i % 256:Nat):Int)
theorem lw_word (n k:Nat):Word (lw n k):=by unfold lw Word;omega
abbrev RN:Nat:=115792089237316195423570985008687907853269984665640564039457584007913129639936
def Num.of (n:Nat):Num:=⟨lw n 0,lw n 1,lw n 2,lw n 3⟩
theorem Num.of_ok (n:Nat):(Num.of n).ok:=⟨lw_word n 0,lw_word n 1,lw_word n 2,lw_word n 3⟩
theorem Num.of_val (n:Nat) (h:n<RN):(Num.of n).val=(n:Int):=by
 simp only [Num.of,Num.val,lw]
 simp only [show (18446744073709551616:Nat) ^ 0=1 from rfl,show (18446744073709551616:Nat) ^ 1=18446744073709551616 from rfl,show (18446744073709551616:Nat) ^ 2=340282366920938463463374607431768211456 from by decide,show (18446744073709551616:Nat) ^ 3=6277101735386680763835789423207666416102355444464034512896 from by decide]
 simp only [RN] at h
 have e2:n/340282366920938463463374607431768211456=n/18446744073709551616/18446744073709551616:=by rw [Nat.div_div_eq_div_mul]
 have e3:n/6277101735386680763835789423207666416102355444464034512896=n/18446744073709551616/18446744073709551616/18446744073709551616:=by rw [Nat.div_div_eq_div_mul,Nat.div_div_eq_div_mul]
 rw [e2,e3,Nat.div_one]
 omega
theorem Num.to_of {s:Num} (h:s.ok) : ∃ n:Nat,n<RN∧(n:Int)=s.val∧s=Num.of n:=by
 have hb:=Num.bound h
 obtain ⟨n,hn⟩:=Int.eq_ofNat_of_zero_le hb.1
 have hlt:n<RN:=by simp only [RR,RN] at *;omega
 exact ⟨n,hlt,hn.symm,Num.inj h (Num.of_ok n) (by rw [Num.of_val n hlt,hn])⟩
def nv (n:Nat):Value := .agg #[.int .u64 (lw n 0),.int .u64 (lw n 1),.int .u64 (lw n 2),.int .u64 (lw n 3)]
theorem nv_inj {m n:Nat} (hm:m<RN) (hn:n<RN) (h:nv m=nv n):m=n:=by
 have e:Num.of m=Num.of n:=by
  simp only [nv,Value.agg.injEq,Array.mk.injEq,List.cons.injEq,Value.int.injEq,true_and,and_true] at h
  obtain ⟨h0,h1,h2,h3⟩:=h
  simp only [Num.of,h0,h1,h2,h3]
 have:=congrArg Num.val e
 rw [Num.of_val m hm,Num.of_val n hn] at this
 omega
theorem mod_cast_pp (a:Nat):((a % pp:Nat):Int)=(a:Int) % PP:=by simp only [pp,PP];omega
theorem mul_nat (a b:Nat) (ha:a<RN) (hb:b<RN) (w:World) :
  Calls Tryd.prog 64 #[nv a,nv b] w fun e w' => ∃ s:Nat,s<RN∧e = .returned (nv s)∧s % pp=(a*b) % pp∧Below w.heap.size w w':=by
 refine (mul_any (Num.of a) (Num.of b) (Num.of_ok a) (Num.of_ok b) w).mono ?_
 rintro e w' ⟨s,rfl,hs,he,hbl⟩
 obtain ⟨n,hn,hv,rfl⟩:=Num.to_of hs
 refine ⟨n,hn,rfl,?_,hbl⟩
 rw [Num.of_val a ha,Num.of_val b hb,←hv,←Int.natCast_mul,←mod_cast_pp,←mod_cast_pp] at he
 omega
theorem add_nat (a b:Nat) (ha:a<RN) (hb:b<RN) (w:World) :
  Calls Tryd.prog 75 #[nv a,nv b] w fun e w' => ∃ s:Nat,s<RN∧e = .returned (nv s)∧s % pp=(a+b) % pp∧Below w.heap.size w w':=by
 refine (add_any (Num.of a) (Num.of b) (Num.of_ok a) (Num.of_ok b) w).mono ?_
 rintro e w' ⟨s,rfl,hs,he,hbl⟩
 obtain ⟨n,hn,hv,rfl⟩:=Num.to_of hs
 refine ⟨n,hn,rfl,?_,hbl⟩
 rw [Num.of_val a ha,Num.of_val b hb,←hv,←Int.natCast_add,←mod_cast_pp,←mod_cast_pp] at he
 omega
theorem sub_nat (a b:Nat) (ha:a<RN) (hb:b<RN) (w:World) :
  Calls Tryd.prog 74 #[nv a,nv b] w fun e w' => ∃ s:Nat,s<RN∧e = .returned (nv s)∧s % pp=(a+(pp - b % pp)) % pp∧Below w.heap.size w w':=by
 refine (sub_any (Num.of a) (Num.of b) (Num.of_ok a) (Num.of_ok b) w).mono ?_
 rintro e w' ⟨s,rfl,hs,he,hbl⟩
 obtain ⟨n,hn,hv,rfl⟩:=Num.to_of hs
 refine ⟨n,hn,rfl,?_,hbl⟩
 rw [Num.of_val a ha,Num.of_val b hb,←hv] at he
 simp only [PP,pp] at *
 omega
theorem settle_nat (a:Nat) (ha:a<RN) (w:World) :
  Calls Tryd.prog 72 #[nv a] w fun e w'=>e = .returned (nv (a % pp))∧Below w.heap.size w w':=by
 refine (settle_any (Num.of a) (Num.of_ok a) w).mono ?_
 rintro e w' ⟨s,rfl,hs,he,hbl⟩
 obtain ⟨n,hn,hv,rfl⟩:=Num.to_of hs
 rw [Num.of_val a ha,←hv,←mod_cast_pp] at he
 have:n=a % pp:=by omega
 subst this
 exact ⟨rfl,hbl⟩
theorem or_add (x y k:Nat) (m:Int) (hm:m=((2 ^ k:Nat):Int)) (X Y:Int) (hX:X=(x:Int)) (hY:Y=(y:Int)) (hx:x<2 ^ k) (hy:y*2 ^ k<18446744073709551616) (hx2:x<18446744073709551616) :
  bits .or .u64 X (Y*m)=X+Y*m:=by
 subst hm;subst hX;subst hY
 rw [←Int.natCast_mul,bits_or_u64_nat x (y*2 ^ k) hx2 hy,←Int.natCast_add]
 congr 1
 rw [←Nat.shiftLeft_eq,Nat.or_comm,←Nat.shiftLeft_add_eq_or_of_lt hx,Nat.add_comm]
set_option maxHeartbeats 1000000 in
theorem word_any (b off cap:Nat) (x0 x1 x2 x3 x4 x5 x6 x7:Nat) (hx:x0<256∧x1<256∧x2<256∧x3<256∧x4<256∧x5<256∧x6<256∧x7<256) (w:World)
  (h0:w.cell? ⟨b,off,none⟩=some (.int .u8 x0)) (h1:w.cell? ⟨b,off+1,none⟩=some (.int .u8 x1)) (h2:w.cell? ⟨b,off+2,none⟩=some (.int .u8 x2)) (h3:w.cell? ⟨b,off+3,none⟩=some (.int .u8 x3))
  (h4:w.cell? ⟨b,off+4,none⟩=some (.int .u8 x4)) (h5:w.cell? ⟨b,off+5,none⟩=some (.int .u8 x5)) (h6:w.cell? ⟨b,off+6,none⟩=some (.int .u8 x6)) (h7:w.cell? ⟨b,off+7,none⟩=some (.int .u8 x7)) :
  Calls Tryd.prog 79 #[.slice (some ⟨b,off,none⟩) 8 cap] w fun e w' =>
   e = .returned (.int .u64 ((x0+x1*256+x2*65536+x3*16777216+x4*4294967296+x5*1099511627776+x6*281474976710656+x7*72057594037927936:Nat):Int)) ∧ ∃ n,w'=w.drewN n:=by
 obtain ⟨y0,hy0⟩ : ∃ y:Int,y=x0:=⟨_,rfl⟩
 obtain ⟨y1,hy1⟩ : ∃ y:Int,y=x1:=⟨_,rfl⟩
 obtain ⟨y2,hy2⟩ : ∃ y:Int,y=x2:=⟨_,rfl⟩
 obtain ⟨y3,hy3⟩ : ∃ y:Int,y=x3:=⟨_,rfl⟩
 obtain ⟨y4,hy4⟩ : ∃ y:Int,y=x4:=⟨_,rfl⟩
 obtain ⟨y5,hy5⟩ : ∃ y:Int,y=x5:=⟨_,rfl⟩
 obtain ⟨y6,hy6⟩ : ∃ y:Int,y=x6:=⟨_,rfl⟩
 obtain ⟨y7,hy7⟩ : ∃ y:Int,y=x7:=⟨_,rfl⟩
 have o1:=or_add x0 x1 8 256 (by decide) y0 y1 hy0 hy1 (by omega) (by omega) (by omega)
 have o2:=or_add (x0+x1*256) x2 16 65536 (by decide) (y0+y1*256) y2 (by omega) hy2 (by omega) (by omega) (by omega)
 have o3:=or_add (x0+x1*256+x2*65536) x3 24 16777216 (by decide) (y0+y1*256+y2*65536) y3 (by omega) hy3 (by omega) (by omega) (by omega)
 have o4:=or_add (x0+x1*256+x2*65536+x3*16777216) x4 32 4294967296 (by decide) (y0+y1*256+y2*65536+y3*16777216) y4 (by omega) hy4 (by omega) (by omega) (by omega)
 have o5:=or_add (x0+x1*256+x2*65536+x3*16777216+x4*4294967296) x5 40 1099511627776 (by decide) (y0+y1*256+y2*65536+y3*16777216+y4*4294967296) y5 (by omega) hy5 (by omega) (by omega) (by omega)
 have o6:=or_add (x0+x1*256+x2*65536+x3*16777216+x4*4294967296+x5*1099511627776) x6 48 281474976710656 (by decide) (y0+y1*256+y2*65536+y3*16777216+y4*4294967296+y5*1099511627776) y6 (by omega) hy6 (by omega) (by omega) (by omega)
 have o7:=or_add (x0+x1*256+x2*65536+x3*16777216+x4*4294967296+x5*1099511627776+x6*281474976710656) x7 56 72057594037927936 (by decide) (y0+y1*256+y2*65536+y3*16777216+y4*4294967296+y5*1099511627776+y6*281474976710656) y7 (by omega) hy7 (by omega) (by omega) (by omega)
 have v0:IntKind.u64.wrap y0=y0:=by rw [IntKind.wrap_u64];omega
 have v1:IntKind.u64.wrap y1=y1:=by rw [IntKind.wrap_u64];omega
 have v2:IntKind.u64.wrap y2=y2:=by rw [IntKind.wrap_u64];omega
 have v3:IntKind.u64.wrap y3=y3:=by rw [IntKind.wrap_u64];omega
 have v4:IntKind.u64.wrap y4=y4:=by rw [IntKind.wrap_u64];omega
 have v5:IntKind.u64.wrap y5=y5:=by rw [IntKind.wrap_u64];omega
 have v6:IntKind.u64.wrap y6=y6:=by rw [IntKind.wrap_u64];omega
 have v7:IntKind.u64.wrap y7=y7:=by rw [IntKind.wrap_u64];omega
 have s1:IntKind.u64.wrap (y1*256)=y1*256:=by rw [IntKind.wrap_u64];omega
 have s2:IntKind.u64.wrap (y2*65536)=y2*65536:=by rw [IntKind.wrap_u64];omega
 have s3:IntKind.u64.wrap (y3*16777216)=y3*16777216:=by rw [IntKind.wrap_u64];omega
 have s4:IntKind.u64.wrap (y4*4294967296)=y4*4294967296:=by rw [IntKind.wrap_u64];omega
 have s5:IntKind.u64.wrap (y5*1099511627776)=y5*1099511627776:=by rw [IntKind.wrap_u64];omega
 have s6:IntKind.u64.wrap (y6*281474976710656)=y6*281474976710656:=by rw [IntKind.wrap_u64];omega
 have s7:IntKind.u64.wrap (y7*72057594037927936)=y7*72057594037927936:=by rw [IntKind.wrap_u64];omega
 have HE:Hid (y0+y1*256+y2*65536+y3*16777216+y4*4294967296+y5*1099511627776+y6*281474976710656+y7*72057594037927936=((x0+x1*256+x2*65536+x3*16777216+x4*4294967296+x5*1099511627776+x6*281474976710656+x7*72057594037927936:Nat):Int)):=by show _=_;omega
 rw [←HE.out]
 rw [←hy0] at h0;rw [←hy1] at h1;rw [←hy2] at h2;rw [←hy3] at h3;rw [←hy4] at h4;rw [←hy5] at h5;rw [←hy6] at h6;rw [←hy7] at h7
 clear hy0 hy1 hy2 hy3 hy4 hy5 hy6 hy7 HE hx
 go_enter Tryd.func79,Tryd.ntmps79
 go_wp2
 go_quiet (fail)
 go_wp2
 go_ret
 exact ⟨rfl,nq,rfl⟩
def bl (n:Nat):List Value:=(List.range 32).map fun i=>Value.int .u8 (by8 n i)
def br (n:Nat):Array Value:=(bl n).toArray
theorem bl_length (n:Nat):(bl n).length=32:=by simp [bl]
def bv (n:Nat):Value := .agg (br n)
theorem br_size (n:Nat):(br n).size=32:=by simp [br,bl]
theorem br_get (n i:Nat) (h:i<32):(br n)[i]? = some (.int .u8 (by8 n i)):=by simp [br,bl,h]
theorem br_one (n:Nat):(br n).all (·.oneCell')=true:=by
 rw [Array.all_eq_true]
 intro i hi
 rw [br_size] at hi
 have:=br_get n i hi
 rw [Array.getElem?_eq_getElem (by rw [br_size];exact hi)] at this
 rw [Option.some.inj this];rfl
theorem word_sum (x:Nat) (h:x<18446744073709551616):x=x % 256+x/256 % 256*256+x/65536 % 256*65536+x/16777216 % 256*16777216+x/4294967296 % 256*4294967296+x/1099511627776 % 256*1099511627776+x/281474976710656 % 256*281474976710656+x/72057594037927936 % 256*72057594037927936:=by
 have e1:x/65536=x/256/256:=by rw [Nat.div_div_eq_div_mul]
 have e2:x/16777216=x/256/256/256:=by rw [Nat.div_div_eq_div_mul,Nat.div_div_eq_div_mul]
 have e3:x/4294967296=x/256/256/256/256:=by rw [Nat.div_div_eq_div_mul,Nat.div_div_eq_div_mul,Nat.div_div_eq_div_mul]
 have e4:x/1099511627776=x/256/256/256/256/256:=by rw [Nat.div_div_eq_div_mul,Nat.div_div_eq_div_mul,Nat.div_div_eq_div_mul,Nat.div_div_eq_div_mul]
 have e5:x/281474976710656=x/256/256/256/256/256/256:=by rw [Nat.div_div_eq_div_mul,Nat.div_div_eq_div_mul,Nat.div_div_eq_div_mul,Nat.div_div_eq_div_mul,Nat.div_div_eq_div_mul]
 have e6:x/72057594037927936=x/256/256/256/256/256/256/256:=by rw [Nat.div_div_eq_div_mul,Nat.div_div_eq_div_mul,Nat.div_div_eq_div_mul,Nat.div_div_eq_div_mul,Nat.div_div_eq_div_mul,Nat.div_div_eq_div_mul]
 rw [e1,e2,e3,e4,e5,e6]
 omega
theorem by8_word (n k j:Nat) (hj:j<8):n/256 ^ (8*k+j) % 256=n/18446744073709551616 ^ k % 18446744073709551616/256 ^ j % 256:=by
 have e:(256:Nat) ^ (8*k+j)=18446744073709551616 ^ k*256 ^ j:=by rw [Nat.pow_add,Nat.pow_mul]
 rw [e,←Nat.div_div_eq_div_mul]
 have e2:(18446744073709551616:Nat)=256 ^ j*(256*256 ^ (7 - j)):=by
  rw [←Nat.pow_succ',←Nat.pow_add,show j+(7 - j).succ=8 by omega]
 generalize n/18446744073709551616 ^ k=x
 rw [e2,Nat.mod_mul_right_div_self,Nat.mod_mul_right_mod]
theorem word_at (b o cap n k:Nat) (w:World) (hc : ∀ i,i<32→w.cell? ⟨b,i,none⟩=some (.int .u8 (by8 n i))) (hk:k<4) (ho:o=8*k) :
  Calls Tryd.prog 79 #[.slice (some ⟨b,o,none⟩) 8 cap] w fun e w'=>e = .returned (.int .u64 (lw n k)) ∧ ∃ m,w'=w.drewN m:=by
 subst ho
 have q : ∀ j,j<8→w.cell? ⟨b,8*k+j,none⟩=some (.int .u8 ((n/18446744073709551616 ^ k % 18446744073709551616/256 ^ j % 256:Nat):Int)):=fun j hj=>by
  rw [hc _ (by omega),by8,by8_word n k j hj]
 refine (word_any b (8*k) cap _ _ _ _ _ _ _ _ ⟨?_,?_,?_,?_,?_,?_,?_,?_⟩ w (q 0 (by omega)) (q 1 (by omega)) (q 2 (by omega)) (q 3 (by omega)) (q 4 (by omega)) (q 5 (by omega)) (q 6 (by omega)) (q 7 (by omega))).mono ?_
 ·exact Nat.mod_lt _ (by decide)
 ·exact Nat.mod_lt _ (by decide)
 ·exact Nat.mod_lt _ (by decide)
 ·exact Nat.mod_lt _ (by decide)
 ·exact Nat.mod_lt _ (by decide)
 ·exact Nat.mod_lt _ (by decide)
 ·exact Nat.mod_lt _ (by decide)
 ·exact Nat.mod_lt _ (by decide)
 ·rintro e w' ⟨rfl,m,rfl⟩
  refine ⟨?_,m,rfl⟩
  congr 2
  rw [lw]
  have:=word_sum (n/18446744073709551616 ^ k % 18446744073709551616) (Nat.mod_lt _ (by decide))
  simp only [show (256:Nat) ^ 0=1 from rfl,show (256:Nat) ^ 1=256 from rfl,show (256:Nat) ^ 2=65536 from rfl,show (256:Nat) ^ 3=16777216 from rfl,show (256:Nat) ^ 4=4294967296 from rfl,show (256:Nat) ^ 5=1099511627776 from rfl,show (256:Nat) ^ 6=281474976710656 from rfl,show (256:Nat) ^ 7=72057594037927936 from rfl,Nat.div_one]
  rw [←this]
theorem size_u8:(Tryd.prog.info? 5).map (·.size)=some 1:=by kernel_rfl
theorem addr_add0 (g o j:Nat):(⟨g,o,none⟩:Addr).add j=⟨g,o+j,none⟩:=Addr.add_mid g o j
theorem arr_desc {P:Program} {t e:TypeId} {n:Nat} (hu:P.underlying t=some (.array n e)):P.arrayLen t=n∧P.elem t=e:=by
 constructor
 ·simp [Program.arrayLen,hu]
 ·simp [Program.elem,hu]
theorem size_run {P:Program} {e:TypeId} {s:Nat} (hs:(P.info? e).map (·.size)=some s) (w:World):(sizeOf e).run P w = .ok s w:=by
 cases hq:P.info? e with
 | none=>simp [hq] at hs
 | some i=>simp [hq] at hs;simp [sizeOf,typeInfo,hq,hs]
theorem sliceAt_lh {P:Program} (w:World) (t e:TypeId) (n g o:Nat) (lo hi:Int) (l h:Nat) (hl:lo=l) (hh:hi=h) (hu:P.underlying t=some (.array n e)) (hs:(P.info? e).map (·.size)=some 1) (h1:l≤h) (h2:h≤n) (h3:l<n) :
  (Instr.sliceAt t (.pointer (some ⟨g,o,none⟩)) (some (.int .i64 lo)) (some (.int .i64 hi)) none).run P w = .ok (.slice (some ⟨g,o+l,none⟩) (h - l) (n - l)) w:=by
 subst hl;subst hh
 obtain ⟨e1,e2⟩:=arr_desc hu
 rw [run_sliceAt_array_lh w t _ (by rw [e1,e2];exact hu) _ _ _ _ (by omega) (by omega) (by rw [e1];omega),e2,size_run hs w,e1]
 simp [slicedAt,addr_add0]
 omega
theorem cell_drewN (w:World) (n:Nat) (a:Addr):(w.drewN n).cell? a=w.cell? a:=by
 induction n with
 | zero=>rfl
 | succ n ih=>exact ih
theorem below_drewN {B0:Nat} {a w:World} (h:Below B0 a w) (n:Nat):Below B0 a (w.drewN n):=by
 induction n with
 | zero=>exact h
 | succ n ih=>exact ih.drew
end Go.Proofs.YtmaehekekkfpmaaDoor
