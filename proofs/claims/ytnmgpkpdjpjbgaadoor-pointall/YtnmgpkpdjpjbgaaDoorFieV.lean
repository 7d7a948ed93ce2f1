/- Plain number theory: inverses modulo p. -/
import Derived.Test.YtnmgpkpdjpjbgaaDoorFieN
import Derived.Test.YtnmgpkpdjpjbgaaDoorFieK
namespace Go.Proofs.YtnmgpkpdjpjbgaaDoor
open Go
theorem pp_pos : 0 < pp := by decide
theorem sub_back (a b : Nat) : ((a + b) % pp + (pp - b % pp)) % pp = a % pp := by
  have hb := Nat.mod_lt b pp_pos
  rw [Nat.mod_add_mod, show a + b + (pp - b % pp) = a + (pp * (b / pp)) + pp by have := Nat.div_add_mod b pp; omega, Nat.add_mod_right, Nat.add_mul_mod_self_left]
theorem inv_one (a : Nat) (h : ¬ a % pp = 0) : a * (a ^ (pp - 2) % pp) % pp = 1 := by
  have hd : ¬ pp ∣ a := fun d => h (Nat.mod_eq_zero_of_dvd d)
  have f := prm.fermat hd
  rw [Nat.mul_mod_mod, Nat.mul_comm, ← Nat.pow_succ, show (pp - 2).succ = pp - 1 by decide]
  exact f
theorem inv_zero (a : Nat) (h : a % pp = 0) : a ^ (pp - 2) % pp = 0 := by
  obtain ⟨k, hk⟩ : ∃ k, pp - 2 = k + 1 := ⟨pp - 3, by decide⟩
  rw [hk, Nat.pow_succ, Nat.mul_mod, h, Nat.mul_zero, Nat.zero_mod]
theorem inv_inv (a : Nat) (h : ¬ a % pp = 0) : (a ^ (pp - 2) % pp) ^ (pp - 2) % pp = a % pp := by
  obtain ⟨i, hi⟩ : ∃ i, i = a ^ (pp - 2) % pp := ⟨_, rfl⟩
  have e1 := inv_one a h
  rw [← hi] at e1 ⊢
  have h0 : ¬ i % pp = 0 := fun h0 => by
    rw [Nat.mul_mod, h0, Nat.mul_zero, Nat.zero_mod] at e1
    exact absurd e1 (by decide)
  have e2 := inv_one i h0
  have : (a * (i * (i ^ (pp - 2) % pp))) % pp = a % pp := by rw [Nat.mul_mod, e2, Nat.mul_one, Nat.mod_mod]
  rw [← Nat.mul_assoc, Nat.mul_mod, e1, Nat.one_mul, Nat.mod_mod, Nat.mod_mod] at this
  exact this
end Go.Proofs.YtnmgpkpdjpjbgaaDoor
