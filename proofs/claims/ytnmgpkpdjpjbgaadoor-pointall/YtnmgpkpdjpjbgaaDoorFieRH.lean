/- Rows of words: one word changed. Plain mathematics, and the reference's row of eight words in memory. -/
import Derived.Test.YtnmgpkpdjpjbgaaDoorFieRG
namespace Go.Proofs.YtnmgpkpdjpjbgaaDoor
open Go Go.RowKit Go.Lib
set_option linter.unusedSimpArgs false
set_option linter.unusedVariables false
/-- 2^64. -/
abbrev BB : Nat := 18446744073709551616
/-- Word k of N; N with v for its word k. -/
def wd (N k : Nat) : Nat := N / BB ^ k % BB
def upw (N k v : Nat) : Nat := N / BB ^ (k + 1) * BB ^ (k + 1) + v * BB ^ k + N % BB ^ k
theorem lw_wd (N k : Nat) : lw N k = ((wd N k : Nat) : Int) := rfl
theorem wd_lt (N k : Nat) : wd N k < BB := Nat.mod_lt _ (by decide)
theorem bpos (k : Nat) : 0 < BB ^ k := Nat.pow_pos (by decide)
theorem upw_sum (N k v : Nat) : upw N k v + wd N k * BB ^ k = N + v * BB ^ k := by
  have h1 := Nat.div_add_mod N (BB ^ k)
  have h2 := Nat.div_add_mod (N / BB ^ k) BB
  have e : N / BB ^ (k + 1) * BB ^ (k + 1) + N / BB ^ k % BB * BB ^ k = N / BB ^ k * BB ^ k := by
    rw [Nat.pow_succ, ← Nat.div_div_eq_div_mul, Nat.mul_comm (BB ^ k) BB, ← Nat.mul_assoc, ← Nat.add_mul, Nat.mul_comm (N / BB ^ k / BB) BB, h2]
  unfold upw wd
  rw [Nat.mul_comm] at h1
  omega
theorem upw_lt (N k v m : Nat) (hN : N < BB ^ m) (hk : k < m) (hv : v < BB) : upw N k v < BB ^ m := by
  obtain ⟨d, rfl⟩ : ∃ d, m = k + 1 + d := ⟨m - (k + 1), by omega⟩
  have h1 : N / BB ^ (k + 1) < BB ^ d := by
    rw [Nat.div_lt_iff_lt_mul (bpos _), ← Nat.pow_add, Nat.add_comm d]; exact hN
  have h2 : N / BB ^ (k + 1) * BB ^ (k + 1) ≤ (BB ^ d - 1) * BB ^ (k + 1) := Nat.mul_le_mul_right _ (by omega)
  have h3 : v * BB ^ k + N % BB ^ k < BB ^ (k + 1) := by
    have := Nat.mod_lt N (bpos k)
    have h4 : v * BB ^ k ≤ (BB - 1) * BB ^ k := Nat.mul_le_mul_right _ (by omega)
    rw [Nat.sub_mul, Nat.one_mul] at h4
    rw [Nat.pow_succ, Nat.mul_comm (BB ^ k) BB]
    have h5 : BB ^ k ≤ BB * BB ^ k := Nat.le_mul_of_pos_left _ (by decide)
    omega
  have h6 : (BB ^ d - 1) * BB ^ (k + 1) + BB ^ (k + 1) = BB ^ (k + 1 + d) := by
    rw [Nat.sub_mul, Nat.one_mul, Nat.pow_add BB (k + 1) d, Nat.mul_comm (BB ^ (k + 1)) (BB ^ d)]
    have := Nat.le_mul_of_pos_left (BB ^ (k + 1)) (bpos d)
    omega
  unfold upw
  omega
theorem upw_wd (N k v j : Nat) (hv : v < BB) : wd (upw N k v) j = if j = k then v else wd N j := by
  have hm := Nat.mod_lt N (bpos k)
  have h3 : v * BB ^ k + N % BB ^ k < BB ^ (k + 1) := by
    have h4 : v * BB ^ k ≤ (BB - 1) * BB ^ k := Nat.mul_le_mul_right _ (by omega)
    rw [Nat.sub_mul, Nat.one_mul] at h4
    rw [Nat.pow_succ, Nat.mul_comm (BB ^ k) BB]
    have h5 : BB ^ k ≤ BB * BB ^ k := Nat.le_mul_of_pos_left _ (by decide)
    omega
  unfold wd upw
  split
  · rename_i h
    subst h
    rw [show N / BB ^ (j + 1) * BB ^ (j + 1) + v * BB ^ j + N % BB ^ j = N % BB ^ j + BB ^ j * (v + BB * (N / BB ^ (j + 1))) by
      rw [Nat.mul_add, Nat.pow_succ, Nat.mul_comm v, Nat.mul_comm (N / _)]
      simp only [Nat.mul_assoc]; omega, Nat.add_mul_div_left _ _ (bpos j), Nat.div_eq_of_lt hm, Nat.zero_add, Nat.add_mul_mod_self_left]
    exact Nat.mod_eq_of_lt hv
  · rename_i h
    rcases Nat.lt_or_gt_of_ne h with h1 | h1
    · -- j < k
      have e : BB ^ k = BB ^ j * (BB * BB ^ (k - j - 1)) := by rw [← Nat.pow_succ', ← Nat.pow_add]; congr 1; omega
      have e2 : BB ^ (k + 1) = BB ^ k * BB := Nat.pow_succ _ _
      have hN : ∀ x, x / BB ^ j % BB = x % BB ^ k / BB ^ j % BB := fun x => by
        rw [e, Nat.mod_mul_right_div_self, Nat.mod_mul_right_mod]
      rw [hN (N / BB ^ (k + 1) * BB ^ (k + 1) + v * BB ^ k + N % BB ^ k), hN N]
      rw [show N / BB ^ (k + 1) * BB ^ (k + 1) + v * BB ^ k + N % BB ^ k = N % BB ^ k + BB ^ k * (v + BB * (N / BB ^ (k + 1))) by
        rw [Nat.mul_add, e2, Nat.mul_comm v, Nat.mul_comm (N / _)]
        simp only [Nat.mul_assoc]; omega, Nat.add_mul_mod_self_left, Nat.mod_mod]
    · -- k < j
      have hd : ∀ x, x / BB ^ j = x / BB ^ (k + 1) / BB ^ (j - k - 1) := fun x => by
        rw [Nat.div_div_eq_div_mul, ← Nat.pow_add]; congr 2; omega
      rw [hd, hd N, show N / BB ^ (k + 1) * BB ^ (k + 1) + v * BB ^ k + N % BB ^ k = (v * BB ^ k + N % BB ^ k) + BB ^ (k + 1) * (N / BB ^ (k + 1)) by rw [Nat.mul_comm (BB ^ (k + 1))]; omega, Nat.add_mul_div_left _ _ (bpos _), Nat.div_eq_of_lt h3, Nat.zero_add]
theorem low_succ (b j : Nat) : b % BB ^ (j + 1) = b % BB ^ j + BB ^ j * wd b j := by
  rw [Nat.mod_pow_succ]; rfl
/-- Eight words. -/
def l8 (N : Nat) : List Value := (List.range 8).map fun k => Value.int .u64 (lw N k)
theorem l8_get (N k : Nat) (h : k < 8) : (l8 N).toArray[k]? = some (.int .u64 (lw N k)) := by simp [l8, h]
theorem l8_size (N : Nat) : (l8 N).toArray.size = 8 := by simp [l8]
theorem set_l8 {w : World} {g N k v : Nat} {t : TypeId} (hv : v < BB) (hk : k < 8) (h : w.heap[g]? = some (.cells (l8 N).toArray t (0, 0))) :
    (w.setCell ⟨g, k, none⟩ (.int .u64 (v : Int))).heap[g]? = some (.cells (l8 (upw N k v)).toArray t (0, 0)) := by
  rw [cell_set (k := k) _ h]
  congr 2
  apply Array.ext_getElem?
  intro i
  rw [Array.getElem?_setIfInBounds, l8_size]
  by_cases hi : i < 8
  · rw [l8_get _ i hi, l8_get _ i hi, lw_wd (upw N k v), upw_wd N k v i hv]
    by_cases h1 : k = i
    · subst h1; rw [if_pos rfl, if_pos rfl, if_pos hk]
    · rw [if_neg h1, if_neg (Ne.symm h1)]; rfl
  · rw [if_neg (by omega), Array.getElem?_eq_none (by rw [l8_size]; omega), Array.getElem?_eq_none (by rw [l8_size]; omega)]
theorem set_l4 {w : World} {g N k v : Nat} {t : TypeId} (hv : v < BB) (hk : k < 4) (h : w.heap[g]? = some (.cells (nl N).toArray t (0, 0))) :
    (w.setCell ⟨g, k, none⟩ (.int .u64 (v : Int))).heap[g]? = some (.cells (nl (upw N k v)).toArray t (0, 0)) := by
  rw [cell_set (k := k) _ h]
  congr 2
  apply Array.ext_getElem?
  intro i
  rw [Array.getElem?_setIfInBounds]
  by_cases hi : i < 4
  · rw [nl_get _ i hi, nl_get _ i hi, lw_wd (upw N k v), upw_wd N k v i hv]
    by_cases h1 : k = i
    · subst h1; rw [if_pos rfl, if_pos rfl, if_pos (by simp; omega)]
    · rw [if_neg h1, if_neg (Ne.symm h1)]; rfl
  · rw [if_neg (by omega), Array.getElem?_eq_none (by simp; omega), Array.getElem?_eq_none (by simp; omega)]
theorem mix (B h l c1 c2 l1 l2 x c ab : Nat) (e0 : ab = h * B + l) (e1 : l1 + c1 * B = l + x) (e2 : l2 + c2 * B = l1 + c) : l2 + (h + c1 + c2) * B = ab + x + c := by
  rw [Nat.add_mul, Nat.add_mul]; omega
theorem mix2 (B h l c1 c2 lo1 v x hi cy hk : Nat) (e0 : hk = h * B + l) (e1 : lo1 + c1 * B = l + hi) (e2 : v + c2 * B = x + lo1 + cy) : v + (h + c1 + c2) * B = x + hk + hi + cy := by
  rw [Nat.add_mul, Nat.add_mul]; omega
/-- One step of the school's product. -/
theorem inner_step (N c k i j a b h l l1 c1 l2 c2 : Nat) (hk : k = i + j) (e0 : wd a i * wd b j = h * BB + l) (e1 : l1 + c1 * BB = l + wd N k) (e2 : l2 + c2 * BB = l1 + c) (S : Nat)
    (hi : N + c * BB ^ k = S + wd a i * (b % BB ^ j) * BB ^ i) : upw N k l2 + (h + c1 + c2) * BB ^ (k + 1) = S + wd a i * (b % BB ^ (j + 1)) * BB ^ i := by
  have u := upw_sum N k l2
  have e3 : l2 + (h + c1 + c2) * BB = wd a i * wd b j + wd N k + c := mix BB h l c1 c2 l1 l2 (wd N k) c _ e0 e1 e2
  have e6 : (h + c1 + c2) * BB * BB ^ k = h * BB * BB ^ k + c1 * BB * BB ^ k + c2 * BB * BB ^ k := by rw [Nat.add_mul, Nat.add_mul, Nat.add_mul, Nat.add_mul]
  have e4 : l2 * BB ^ k + (h + c1 + c2) * BB * BB ^ k = (wd a i * wd b j + wd N k + c) * BB ^ k := by rw [← Nat.add_mul, e3]
  have e5 : wd a i * (b % BB ^ (j + 1)) * BB ^ i = wd a i * (b % BB ^ j) * BB ^ i + wd a i * wd b j * BB ^ k := by
    rw [low_succ, Nat.mul_add, Nat.add_mul, hk, Nat.pow_add, Nat.mul_comm (BB ^ j) (wd b j), ← Nat.mul_assoc (wd a i), Nat.mul_assoc (wd a i * wd b j), Nat.mul_comm (BB ^ j)]
  have e7 : (wd a i * wd b j + wd N k + c) * BB ^ k = wd a i * wd b j * BB ^ k + wd N k * BB ^ k + c * BB ^ k := by rw [Nat.add_mul, Nat.add_mul]
  rw [e5, Nat.pow_succ, Nat.mul_comm (BB ^ k) BB, ← Nat.mul_assoc]
  rw [e7] at e4
  clear e0 e1 e2 e3 e6
  generalize (h + c1 + c2) * BB * BB ^ k = A1 at *
  generalize l2 * BB ^ k = A2 at *
  generalize wd N k * BB ^ k = A3 at *
  generalize wd a i * wd b j * BB ^ k = A4 at *
  generalize wd a i * (b % BB ^ j) * BB ^ i = A5 at *
  generalize c * BB ^ k = A6 at *
  generalize upw N k l2 = A7 at *
  omega
/-- One step of the fold of the upper words. -/
theorem outer_step (O H k h l hi lo1 c1 v c2 cy : Nat) (L : Nat) (e0 : wd H k * 38 = h * BB + l) (e1 : lo1 + c1 * BB = l + hi) (e2 : v + c2 * BB = wd O k + lo1 + cy)
    (hi0 : O + (hi + cy) * BB ^ k = L + 38 * (H % BB ^ k)) : upw O k v + (h + c1 + c2) * BB ^ (k + 1) = L + 38 * (H % BB ^ (k + 1)) := by
  have u := upw_sum O k v
  have e3 : v + (h + c1 + c2) * BB = wd O k + wd H k * 38 + hi + cy := mix2 BB h l c1 c2 lo1 v (wd O k) hi cy _ e0 e1 e2
  have e6 : (h + c1 + c2) * BB * BB ^ k = h * BB * BB ^ k + c1 * BB * BB ^ k + c2 * BB * BB ^ k := by rw [Nat.add_mul, Nat.add_mul, Nat.add_mul, Nat.add_mul]
  have e4 : v * BB ^ k + (h + c1 + c2) * BB * BB ^ k = (wd O k + wd H k * 38 + hi + cy) * BB ^ k := by rw [← Nat.add_mul, e3]
  have e5 : 38 * (H % BB ^ (k + 1)) = 38 * (H % BB ^ k) + wd H k * 38 * BB ^ k := by
    rw [low_succ, Nat.mul_add, Nat.mul_comm (BB ^ k) (wd H k), ← Nat.mul_assoc, Nat.mul_comm 38 (wd H k)]
  have e7 : (wd O k + wd H k * 38 + hi + cy) * BB ^ k = wd O k * BB ^ k + wd H k * 38 * BB ^ k + hi * BB ^ k + cy * BB ^ k := by rw [Nat.add_mul, Nat.add_mul, Nat.add_mul]
  have e8 : (hi + cy) * BB ^ k = hi * BB ^ k + cy * BB ^ k := by rw [Nat.add_mul]
  rw [e5, Nat.pow_succ, Nat.mul_comm (BB ^ k) BB, ← Nat.mul_assoc]
  rw [e7] at e4
  rw [e8] at hi0
  clear e0 e1 e2 e3 e6
  generalize (h + c1 + c2) * BB * BB ^ k = A1 at *
  generalize v * BB ^ k = A2 at *
  generalize wd O k * BB ^ k = A3 at *
  generalize wd H k * 38 * BB ^ k = A4 at *
  generalize H % BB ^ k = A5 at *
  generalize hi * BB ^ k = A6 at *
  generalize cy * BB ^ k = A8 at *
  generalize upw O k v = A7 at *
  omega
end Go.Proofs.YtnmgpkpdjpjbgaaDoor
