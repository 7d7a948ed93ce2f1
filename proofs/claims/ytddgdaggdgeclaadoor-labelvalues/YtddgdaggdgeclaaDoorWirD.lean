/- ReadNum, the reference's ReadNum; what numbers are read as; bytes as strings. -/
import Derived.Test.YtddgdaggdgeclaaDoorWirC
namespace Go.Proofs.YtddgdaggdgeclaaDoor
open Go Go.RowKit
set_option linter.unusedSimpArgs false
set_option linter.unusedVariables false

def rnErr (xs : List Int) : Int := if xs.length = 8 then 0 else 2
def rnVal (xs : List Int) : Int := if xs.length = 8 then nm xs else 0
/-- The number of bytes, plainly. -/
def pv : List Int → Int
  | [] => 0
  | x :: xs => x * 256 ^ xs.length + pv xs
theorem or_low (a x : Int) (h0 : 0 ≤ a) (h1 : a < 72057594037927936) (h2 : 0 ≤ x) (h3 : x ≤ 255) : bits .or .u64 (IntKind.u64.wrap (a * 256)) x = a * 256 + x := by
  obtain ⟨m, rfl⟩ := Int.eq_ofNat_of_zero_le h0
  obtain ⟨y, rfl⟩ := Int.eq_ofNat_of_zero_le h2
  have e1 : IntKind.u64.wrap ((m : Int) * 256) = ((m * 256 : Nat) : Int) := by rw [IntKind.wrap_u64]; omega
  rw [e1]
  show IntKind.u64.wrap ((BitVec.ofInt 64 ((m * 256 : Nat) : Int) ||| BitVec.ofInt 64 (y : Int)).toNat : Int) = _
  rw [BitVec.ofInt_natCast, BitVec.ofInt_natCast, BitVec.toNat_or, BitVec.toNat_ofNat, BitVec.toNat_ofNat, Nat.mod_eq_of_lt (by omega), Nat.mod_eq_of_lt (by omega)]
  have e2 : m * 256 ||| y = m * 256 + y := by
    have := Nat.shiftLeft_add_eq_or_of_lt (i := 8) (b := y) (by omega) m
    rw [Nat.shiftLeft_eq] at this; exact this.symm
  rw [e2, IntKind.wrap_u64]; omega
theorem pv_nonneg : ∀ xs : List Int, Byt xs → 0 ≤ pv xs
  | [], _ => Int.le_refl _
  | x :: xs, h => by
    have h1 := pv_nonneg xs (fun z hz => h z (by simp [hz]))
    have h2 := (h x (by simp)).1
    have h3 : (0 : Int) ≤ 256 ^ xs.length := Int.le_of_lt (Int.pow_pos (by decide))
    have h4 := Int.mul_nonneg h2 h3
    simp only [pv]; omega
theorem nm_from : ∀ (xs : List Int) (a : Int), Byt xs → 0 ≤ a → xs.length ≤ 8 → a < 256 ^ (8 - xs.length) →
    xs.foldl (fun a x => bits .or .u64 (IntKind.u64.wrap (a * 256)) x) a = a * 256 ^ xs.length + pv xs
  | [], a, _, _, _, _ => by simp [pv]
  | x :: xs, a, hb, h0, hl, ha => by
    obtain ⟨x0, x1⟩ := hb x (by simp)
    simp only [List.length_cons] at hl ha
    have hp : (256 : Int) ^ (8 - (xs.length + 1)) ≤ 256 ^ 7 := by
      have h := Nat.pow_le_pow_right (n := 256) (by decide) (show 8 - (xs.length + 1) ≤ 7 by omega)
      have h' : ((256 ^ (8 - (xs.length + 1)) : Nat) : Int) ≤ ((256 ^ 7 : Nat) : Int) := Int.ofNat_le.2 h
      rw [Int.natCast_pow, Int.natCast_pow] at h'; exact h'
    have hq : (256 : Int) ^ (8 - xs.length) = 256 ^ (8 - (xs.length + 1)) * 256 := by rw [← Int.pow_succ]; congr 1; omega
    have e7 : (256 : Int) ^ 7 = 72057594037927936 := by decide
    rw [List.foldl_cons, or_low a x h0 (by omega) x0 x1, nm_from xs (a * 256 + x) (fun z hz => hb z (by simp [hz])) (by omega) (by omega) (by omega)]
    simp only [pv, List.length_cons, Int.pow_succ]
    rw [Int.add_mul, Int.mul_assoc, Int.mul_comm (256 : Int) (256 ^ xs.length), Int.add_assoc]
theorem nm_plain (xs : List Int) (hb : Byt xs) (hl : xs.length ≤ 8) : nm xs = pv xs := by
  unfold nm
  rw [nm_from xs 0 hb (Int.le_refl _) hl (Int.pow_pos (by decide))]; simp
theorem be_succ (s : Nat) (n : Int) : be (s + 1) n = dg n s :: be s n := by
  unfold be
  rw [List.range_succ_eq_map, List.map_cons, List.map_map]
  congr 1
  apply List.map_congr_left
  intro t ht
  show dg n (s + 1 - 1 - (t + 1)) = dg n (s - 1 - t)
  congr 1; omega
theorem pv_be (m : Nat) : ∀ s : Nat, pv (be s (m : Int)) = ((m % 256 ^ s : Nat) : Int)
  | 0 => by simp [be, pv, Nat.mod_one]
  | s + 1 => by
    rw [be_succ, pv, be_length, pv_be m s, Nat.pow_succ, Nat.mod_mul]
    have e : dg (m : Int) s = ((m / 256 ^ s % 256 : Nat) : Int) := by
      unfold dg
      rw [Int.pow_mul, show (2 : Int) ^ 8 = ((256 : Nat) : Int) from rfl, ← Int.natCast_pow, ← Int.natCast_ediv]
      rfl
    rw [e]
    rw [Int.natCast_add, Int.natCast_mul, Int.natCast_pow, Int.mul_comm, Int.add_comm]; rfl
theorem dg_byte (n : Int) (i : Nat) : 0 ≤ dg n i ∧ dg n i ≤ 255 := by unfold dg; omega
theorem be_byt (s : Nat) (n : Int) : Byt (be s n) := by
  intro z hz
  obtain ⟨t, _, rfl⟩ := List.mem_map.1 hz
  exact dg_byte _ _
theorem nm_be8 (n : Int) (hn : 0 ≤ n) (hn2 : n < 18446744073709551616) : nm (be 8 n) = n := by
  obtain ⟨m, rfl⟩ := Int.eq_ofNat_of_zero_le hn
  have h8 : 256 ^ 8 = 18446744073709551616 := by decide
  rw [nm_plain _ (be_byt _ _) (by rw [be_length]; omega), pv_be, h8, Nat.mod_eq_of_lt (by omega)]
/-- A slice of bytes as a string. -/
theorem Sl.str {w : World} {v : Value} {xs : List Int} (h : Sl w v xs) : (convert 30 9 v).run Tryd.prog w = .ok (.string (strOfNums xs)) w := by
  obtain ⟨ad, cap, rfl, hc, h⟩ := h
  rcases h with ⟨rfl, _⟩ | ⟨b, o, rfl, hlt, hm⟩
  · cases ad with
    | none => exact run_convert_bytes_nil w 30 5 Tryd.underlying30 Tryd.underlying5 0 cap 9 Tryd.underlying9
    | some A =>
      rw [run_convert_bytes_string w 30 9 5 _ _ _ Tryd.underlying30 Tryd.underlying5 Tryd.underlying9]
      exact run_bytesToString w A 0 cap [] (by simpa using run_loadCells_list (P := Tryd.prog) w A [] (fun j v hj => by simp at hj))
  · exact run_convert_bytes_arg w 30 5 Tryd.underlying30 Tryd.underlying5 b o xs.length cap xs rfl hm 9 Tryd.underlying9
end Go.Proofs.YtddgdaggdgeclaaDoor
