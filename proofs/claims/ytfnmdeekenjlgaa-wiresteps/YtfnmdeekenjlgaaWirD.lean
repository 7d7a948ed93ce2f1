/- ReadNum, the reference's ReadNum; what numbers are read as; bytes as strings. -/
import Derived.Test.YtfnmdeekenjlgaaWirC
namespace Go.Proofs.Ytfnmdeekenjlgaa
open Go Go.RowKit
set_option linter.unusedSimpArgs false
set_option linter.unusedVariables false

def rnErr (xs : List Int) : Int := if xs.length = 8 then 0 else 2
def rnVal (xs : List Int) : Int := if xs.length = 8 then nm xs else 0
set_option maxHeartbeats 400000 in
theorem readNum_any (xs : List Int) (v : Value) (w : World) (hb : Byt xs) (hs : Sl w v xs) (hl : xs.length ≤ 140737488355328) :
    Calls Try.prog 30 #[v] w fun e w' => e = .returned (.tuple #[.int .u64 (rnVal xs), .int .i64 (rnErr xs)]) ∧ w' = w := by
  have HS : Hid (Sl w v xs) := hs
  have HB : Hid (Byt xs) := hb
  obtain ⟨ad, cap, rfl, hc, -⟩ := hs
  clear hb hc
  by_cases h8 : xs.length = 8
  · have e1 : rnVal xs = nm xs := if_pos h8
    have e2 : rnErr xs = 0 := if_pos h8
    have E1 : Hid (rnVal xs = nm xs) := e1
    have E2 : Hid (rnErr xs = 0) := e2
    clear e1 e2
    go_enter Try.func30, Try.ntmps30
    go_wp2_with (go_at_call 62; refine (numberOf_any xs _ w HB.out (by rw [← h8]; exact HS.out) hl).mono ?_; rintro e w' ⟨rfl, rfl⟩)
    go_ret2
    exact ⟨by rw [E1.out, E2.out]; rfl, rfl⟩
  · have e1 : rnVal xs = 0 := if_neg h8
    have e2 : rnErr xs = 2 := if_neg h8
    have E1 : Hid (rnVal xs = 0) := e1
    have E2 : Hid (rnErr xs = 2) := e2
    have h8' : ¬ ((xs.length : Int) = 8) := by omega
    clear e1 e2
    go_enter Try.func30, Try.ntmps30
    go_wp2
    go_ret2
    exact ⟨by rw [E1.out, E2.out]; rfl, rfl⟩
set_option maxHeartbeats 400000 in
theorem rreadNum_any (xs : List Int) (v : Value) (w : World) (hb : Byt xs) (hs : Sl w v xs) (hl : xs.length ≤ 140737488355328) :
    Calls Try.prog 35 #[v] w fun e w' => e = .returned (.tuple #[.int .u64 (rnVal xs), .int .i64 (rnErr xs)]) ∧ w' = w := by
  have HB : Hid (Byt xs) := hb
  obtain ⟨ad, cap, rfl, hc, hx⟩ := hs
  have HX : Hid _ := hx
  clear hb hc hx
  by_cases h8 : xs.length = 8
  · have e1 : rnVal xs = nm xs := if_pos h8
    have e2 : rnErr xs = 0 := if_pos h8
    have E1 : Hid (rnVal xs = nm xs) := e1
    have E2 : Hid (rnErr xs = 0) := e2
    clear e1 e2
    go_enter Try.func35, Try.ntmps35
    go_wp2
    go_loop [4, 11] (fun n i => ∃ k : Nat, k ≤ xs.length ∧ i = .int .i64 k ∧ n = .int .u64 (nm (xs.take k))) (fun _ i => xs.length - (intOf i).toNat)
    case atStart => exact ⟨0, Nat.zero_le _, rfl, rfl⟩
    case round =>
      obtain ⟨k, hk, rfl, rfl⟩ := hrel
      by_cases hlt : k < xs.length
      · have HS : Hid _ := nm_snoc xs k hlt
        obtain ⟨g1, g2⟩ := Byt.get HB.out hlt
        rcases HX.out with ⟨rfl, _⟩ | ⟨b, o, rfl, hlb, hm⟩
        · simp at hlt
        · have hc0 := hm k hlt
          clear hm
          rw [h8] at hlt
          have gk : (k : Int) < 8 := by omega
          go_wp2
          go_round
          case rel => exact ⟨k + 1, by omega, by go_num, by rw [HS.out]⟩
          case measure => simp [intOf]; omega
      · rw [h8] at hlt
        go_wp2
        go_ret2
        exact ⟨by rw [E1.out, E2.out, List.take_of_length_le (by omega)]; rfl, rfl⟩
  · have e1 : rnVal xs = 0 := if_neg h8
    have e2 : rnErr xs = 2 := if_neg h8
    have E1 : Hid (rnVal xs = 0) := e1
    have E2 : Hid (rnErr xs = 2) := e2
    have h8' : ¬ ((xs.length : Int) = 8) := by omega
    clear e1 e2
    go_enter Try.func35, Try.ntmps35
    go_wp2
    go_ret2
    exact ⟨by rw [E1.out, E2.out]; rfl, rfl⟩
/-- The number of bytes, plainly. -/
def pv : List Int → Int
  | [] => 0
  | x :: xs => x * 256 ^ xs.length + pv xs
theorem or_low (a x : Int) (h0 : 0 ≤ a) (h1 : a < 72057594037927936) (h2 : 0 ≤ x) (h3 : x ≤ 255) : bits .or .u64 (IntKind.u64.wrap (a * 256)) x = a * 256 + x := by
  obtain ⟨m, rfl⟩ := Int.eq_ofNat_of_zero_le h0
  obtain ⟨y, rfl⟩ := Int.eq_ofNat_of_zero_le h2
  have e1 : IntKind.u64.wrap ((m : Int) * 256) = ((m * 256 : Nat) : Int) := by rw [IntKind.wrap_u64]; omega
  rw [e1]
  show IntKind.u64.wrap ((BitVec.ofInt 64 ((m * 256 : Nat) : Int) ||| BitVec.ofInt 64 (y : Int)).toNat : Int) = _
  rw [BitVec.ofInt_natCast, BitVec.ofInt_natCast, BitVec.toNat_or, BitVec.toNat_ofNat, BitVec.toNat_ofNat, Nat.mod_eq_of_lt (by omega), Nat.mod_eq_of_lt (by omega)]
  have e2 : m * 256 ||| y = m * 256 + y := by
    have := Nat.shiftLeft_add_eq_or_of_lt (i := 8) (b := y) (by omega) m
    rw [Nat.shiftLeft_eq] at this; exact this.symm
  rw [e2, IntKind.wrap_u64]; omega
theorem pv_nonneg : ∀ xs : List Int, Byt xs → 0 ≤ pv xs
  | [], _ => Int.le_refl _
  | x :: xs, h => by
    have h1 := pv_nonneg xs (fun z hz => h z (by simp [hz]))
    have h2 := (h x (by simp)).1
    have h3 : (0 : Int) ≤ 256 ^ xs.length := Int.le_of_lt (Int.pow_pos (by decide))
    have h4 := Int.mul_nonneg h2 h3
    simp only [pv]; omega
theorem nm_from : ∀ (xs : List Int) (a : Int), Byt xs → 0 ≤ a → xs.length ≤ 8 → a < 256 ^ (8 - xs.length) →
    xs.foldl (fun a x => bits .or .u64 (IntKind.u64.wrap (a * 256)) x) a = a * 256 ^ xs.length + pv xs
  | [], a, _, _, _, _ => by simp [pv]
  | x :: xs, a, hb, h0, hl, ha => by
    obtain ⟨x0, x1⟩ := hb x (by simp)
    simp only [List.length_cons] at hl ha
    have hp : (256 : Int) ^ (8 - (xs.length + 1)) ≤ 256 ^ 7 := by
      have h := Nat.pow_le_pow_right (n := 256) (by decide) (show 8 - (xs.length + 1) ≤ 7 by omega)
      have h' : ((256 ^ (8 - (xs.length + 1)) : Nat) : Int) ≤ ((256 ^ 7 : Nat) : Int) := Int.ofNat_le.2 h
      rw [Int.natCast_pow, Int.natCast_pow] at h'; exact h'
    have hq : (256 : Int) ^ (8 - xs.length) = 256 ^ (8 - (xs.length + 1)) * 256 := by rw [← Int.pow_succ]; congr 1; omega
    have e7 : (256 : Int) ^ 7 = 72057594037927936 := by decide
    rw [List.foldl_cons, or_low a x h0 (by omega) x0 x1, nm_from xs (a * 256 + x) (fun z hz => hb z (by simp [hz])) (by omega) (by omega) (by omega)]
    simp only [pv, List.length_cons, Int.pow_succ]
    rw [Int.add_mul, Int.mul_assoc, Int.mul_comm (256 : Int) (256 ^ xs.length), Int.add_assoc]
theorem nm_plain (xs : List Int) (hb : Byt xs) (hl : xs.length ≤ 8) : nm xs = pv xs := by
  unfold nm
  rw [nm_from xs 0 hb (Int.le_refl _) hl (Int.pow_pos (by decide))]; simp
theorem be_succ (s : Nat) (n : Int) : be (s + 1) n = dg n s :: be s n := by
  unfold be
  rw [List.range_succ_eq_map, List.map_cons, List.map_map]
  congr 1
  apply List.map_congr_left
  intro t ht
  show dg n (s + 1 - 1 - (t + 1)) = dg n (s - 1 - t)
  congr 1; omega
theorem pv_be (m : Nat) : ∀ s : Nat, pv (be s (m : Int)) = ((m % 256 ^ s : Nat) : Int)
  | 0 => by simp [be, pv, Nat.mod_one]
  | s + 1 => by
    rw [be_succ, pv, be_length, pv_be m s, Nat.pow_succ, Nat.mod_mul]
    have e : dg (m : Int) s = ((m / 256 ^ s % 256 : Nat) : Int) := by
      unfold dg
      rw [Int.pow_mul, show (2 : Int) ^ 8 = ((256 : Nat) : Int) from rfl, ← Int.natCast_pow, ← Int.natCast_ediv]
      rfl
    rw [e]
    rw [Int.natCast_add, Int.natCast_mul, Int.natCast_pow, Int.mul_comm, Int.add_comm]; rfl
theorem dg_byte (n : Int) (i : Nat) : 0 ≤ dg n i ∧ dg n i ≤ 255 := by unfold dg; omega
theorem be_byt (s : Nat) (n : Int) : Byt (be s n) := by
  intro z hz
  obtain ⟨t, _, rfl⟩ := List.mem_map.1 hz
  exact dg_byte _ _
theorem nm_be8 (n : Int) (hn : 0 ≤ n) (hn2 : n < 18446744073709551616) : nm (be 8 n) = n := by
  obtain ⟨m, rfl⟩ := Int.eq_ofNat_of_zero_le hn
  have h8 : 256 ^ 8 = 18446744073709551616 := by decide
  rw [nm_plain _ (be_byt _ _) (by rw [be_length]; omega), pv_be, h8, Nat.mod_eq_of_lt (by omega)]
/-- A slice of bytes as a string. -/
theorem Sl.str {w : World} {v : Value} {xs : List Int} (h : Sl w v xs) : (convert 34 9 v).run Try.prog w = .ok (.string (strOfNums xs)) w := by
  obtain ⟨ad, cap, rfl, hc, h⟩ := h
  rcases h with ⟨rfl, _⟩ | ⟨b, o, rfl, hlt, hm⟩
  · cases ad with
    | none => exact run_convert_bytes_nil w 34 5 Try.underlying34 Try.underlying5 0 cap 9 Try.underlying9
    | some A =>
      rw [run_convert_bytes_string w 34 9 5 _ _ _ Try.underlying34 Try.underlying5 Try.underlying9]
      exact run_bytesToString w A 0 cap [] (by simpa using run_loadCells_list (P := Try.prog) w A [] (fun j v hj => by simp at hj))
  · exact run_convert_bytes_arg w 34 5 Try.underlying34 Try.underlying5 b o xs.length cap xs rfl hm 9 Try.underlying9
end Go.Proofs.Ytfnmdeekenjlgaa
