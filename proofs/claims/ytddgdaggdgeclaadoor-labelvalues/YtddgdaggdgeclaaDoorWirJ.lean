/- Cutting counts and members off: cutCount, cutMember, bytes.Clone. -/
import Derived.Test.YtddgdaggdgeclaaDoorWirI
import Derived.Deep.QuietTactic
import Derived.BigQuiet
import Derived.WalkSmall
namespace Go.Proofs.YtddgdaggdgeclaaDoor
open Go Go.RowKit
set_option linter.unusedSimpArgs false
set_option linter.unusedVariables false

theorem Byt.take {xs : List Int} (h : Byt xs) (n : Nat) : Byt (xs.take n) := fun z hz => h z (List.mem_of_mem_take hz)
theorem Byt.drop {xs : List Int} (h : Byt xs) (n : Nat) : Byt (xs.drop n) := fun z hz => h z (List.mem_of_mem_drop hz)
theorem pv_lt : ∀ xs : List Int, Byt xs → pv xs < 256 ^ xs.length
  | [], _ => by decide
  | x :: xs, h => by
    have h1 := pv_lt xs (fun z hz => h z (by simp [hz]))
    have h2 := (h x (by simp)).2
    have h3 : (0 : Int) < 256 ^ xs.length := Int.pow_pos (by decide)
    have h4 : x * 256 ^ xs.length ≤ 255 * 256 ^ xs.length := Int.mul_le_mul_of_nonneg_right h2 (Int.le_of_lt h3)
    simp only [pv, List.length_cons, Int.pow_succ]
    omega
/-- The count at the beginning. -/
def cnt (xs : List Int) : Nat := (nm (xs.take 4)).toNat
theorem cnt_nm {xs : List Int} (h : Byt xs) : nm (xs.take 4) = (cnt xs : Int) ∧ cnt xs < 4294967296 := by
  have hl : (xs.take 4).length ≤ 4 := by rw [List.length_take]; omega
  have e := nm_plain (xs.take 4) (h.take 4) (by omega)
  have h1 := pv_nonneg _ (h.take 4)
  have h2 := pv_lt _ (h.take 4)
  have h3 : (256 : Int) ^ (xs.take 4).length ≤ 256 ^ 4 := by
    have h := Nat.pow_le_pow_right (n := 256) (by decide) hl
    have h' : ((256 ^ (xs.take 4).length : Nat) : Int) ≤ ((256 ^ 4 : Nat) : Int) := Int.ofNat_le.2 h
    rw [Int.natCast_pow, Int.natCast_pow] at h'; exact h'
  have e4 : (256 : Int) ^ 4 = 4294967296 := by decide
  unfold cnt
  rw [e]
  omega
theorem gi_take {xs : List Int} {i n : Nat} (h : i < n) : gi (xs.take n) i = gi xs i := by
  unfold gi; simp only [List.getD_eq_getElem?_getD, List.getElem?_take, if_pos h]
theorem gi_drop {xs : List Int} {i n : Nat} : gi (xs.drop n) i = gi xs (n + i) := by
  unfold gi; simp only [List.getD_eq_getElem?_getD, List.getElem?_drop]
/-- A slice's beginning, and what is behind it. -/
theorem Sl.cut {w : World} {b o l cap : Nat} {xs : List Int} (h : Sl w (.slice (some ⟨b, o, none⟩) l cap) xs) (n : Nat) (hn : n ≤ l) :
    Sl w (.slice (some ⟨b, o, none⟩) n cap) (xs.take n) ∧ Sl w (.slice (if cap = n then some ⟨b, o, none⟩ else some ⟨b, o + n, none⟩) (l - n) (cap - n)) (xs.drop n) := by
  obtain ⟨ad, cap', hv, hc, h⟩ := h
  simp only [Value.slice.injEq] at hv
  obtain ⟨rfl, rfl, rfl⟩ := hv
  have l1 : (xs.take n).length = n := by rw [List.length_take]; omega
  have l2 : (xs.drop n).length = xs.length - n := List.length_drop ..
  refine ⟨⟨_, cap, by rw [l1], by rw [l1]; omega, ?_⟩, ⟨_, cap - n, by rw [l2], by rw [l2]; omega, ?_⟩⟩
  · rcases h with ⟨rfl, _⟩ | ⟨b', o', he, hlt, hm⟩
    · exact .inl ⟨by simp, fun e => by cases e⟩
    · simp only [Option.some.injEq, Addr.mk.injEq, and_true] at he
      obtain ⟨rfl, rfl⟩ := he
      exact .inr ⟨b, o, rfl, hlt, fun i hi => by rw [l1] at hi; rw [gi_take hi]; exact hm i (by omega)⟩
  · rcases h with ⟨rfl, _⟩ | ⟨b', o', he, hlt, hm⟩
    · exact .inl ⟨by simp, fun e => by split at e <;> cases e⟩
    · simp only [Option.some.injEq, Addr.mk.injEq, and_true] at he
      obtain ⟨rfl, rfl⟩ := he
      by_cases e : cap = n
      · rw [if_pos e]
        exact .inl ⟨List.drop_eq_nil_of_le (by omega), fun e => by cases e⟩
      · rw [if_neg e]
        exact .inr ⟨b, o + n, rfl, hlt, fun i hi => by rw [l2] at hi; rw [gi_drop, Nat.add_assoc]; exact hm (n + i) (by omega)⟩
/-- A slice that is not empty lies somewhere. -/
theorem Sl.lies {w : World} {v : Value} {xs : List Int} (h : Sl w v xs) (h0 : 0 < xs.length) : ∃ b o cap, v = .slice (some ⟨b, o, none⟩) xs.length cap ∧ xs.length ≤ cap ∧ b < w.heap.size := by
  obtain ⟨ad, cap, rfl, hc, h⟩ := h
  rcases h with ⟨rfl, _⟩ | ⟨b, o, rfl, hb, _⟩
  · simp at h0
  · exact ⟨b, o, cap, rfl, hc, hb⟩
/-- A member at the beginning: there, and what is behind it. -/
def hasM (xs : List Int) : Bool := decide (4 ≤ xs.length ∧ cnt xs ≤ xs.length - 4)
theorem not_nil (ad : Addr) (l c : Nat) (w : World) : (binOp .eql 30 (.slice (some ad) l c) (.slice none 0 0)).run Tryd.prog w = .ok (.bool false) w := by kernel_rfl
end Go.Proofs.YtddgdaggdgeclaaDoor
