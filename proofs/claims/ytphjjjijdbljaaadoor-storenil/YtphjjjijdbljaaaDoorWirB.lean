/- Numbers of bytes: numberOf, ReadNum, the reference's ReadNum. -/
import Derived.Test.YtphjjjijdbljaaaDoorWirA
namespace Go.Proofs.YtphjjjijdbljaaaDoor
open Go Go.RowKit
set_option linter.unusedSimpArgs false
set_option linter.unusedVariables false

def nm (xs : List Int) : Int := xs.foldl (fun a x => bits .or .u64 (IntKind.u64.wrap (a * 256)) x) 0
theorem nm_snoc (xs : List Int) (k : Nat) (h : k < xs.length) : nm (xs.take (k + 1)) = bits .or .u64 (IntKind.u64.wrap (nm (xs.take k) * 256)) (gi xs k) := by
  unfold nm
  rw [List.take_succ_eq_append_getElem h, List.foldl_append]
  rw [gi_get h]; rfl
theorem ret_int {k : IntKind} {a b : Int} (h : a = b) : Ending.returned (.int k a) = .returned (.int k b) := by rw [h]
set_option maxHeartbeats 400000 in
theorem numberOf_any (xs : List Int) (v : Value) (w : World) (hb : Byt xs) (hs : Sl w v xs) (hl : xs.length ≤ 140737488355328) :
    Calls Tryd.prog 71 #[v] w fun e w' => e = .returned (.int .u64 (nm xs)) ∧ w' = w := by
  obtain ⟨ad, cap, rfl, hc, hx⟩ := hs
  have HX : Hid _ := hx
  clear hx
  have HB : Hid (Byt xs) := hb
  clear hb
  go_enter Tryd.func71, Tryd.ntmps71
  go_wp2
  go_loop [3, 8] (fun n i => ∃ k : Nat, k ≤ xs.length ∧ i = .int .i64 k ∧ n = .int .u64 (nm (xs.take k))) (fun _ i => xs.length - (intOf i).toNat)
  case atStart => exact ⟨0, Nat.zero_le _, rfl, rfl⟩
  case round =>
    obtain ⟨k, hk, rfl, rfl⟩ := hrel
    by_cases hlt : k < xs.length
    · have HS : Hid _ := nm_snoc xs k hlt
      obtain ⟨g1, g2⟩ := Byt.get HB.out hlt
      rcases HX.out with ⟨rfl, _⟩ | ⟨b, o, rfl, hlb, hm⟩
      · simp at hlt
      · have hc0 := hm k hlt
        clear hm
        go_wp2
        go_round
        case rel => exact ⟨k + 1, by omega, by go_num, by rw [HS.out]⟩
        case measure => simp [intOf]; omega
    · go_wp2
      go_ret
      exact ⟨ret_int (by rw [List.take_of_length_le (by omega)]), rfl⟩
end Go.Proofs.YtphjjjijdbljaaaDoor
/- Numbers as bytes: appendNumber, Num, the reference's Num. -/
namespace Go.Proofs.YtphjjjijdbljaaaDoor
open Go Go.RowKit
set_option linter.unusedSimpArgs false
set_option linter.unusedVariables false

/-- The byte at the place i of a number, from the least on. -/
def dg (n : Int) (i : Nat) : Int := n / 2 ^ (8 * i) % 256
/-- A number in s bytes, big-endian. -/
def be (s : Nat) (n : Int) : List Int := (List.range s).map fun t => dg n (s - 1 - t)
theorem be_length (s : Nat) (n : Int) : (be s n).length = s := by simp [be]
theorem be_snoc (s : Nat) (n : Int) (c : Nat) (h : c < s) : (be s n).take (c + 1) = (be s n).take c ++ [dg n (s - 1 - c)] := by
  rw [List.take_succ_eq_append_getElem (by rw [be_length]; exact h)]
  simp [be]
set_option maxHeartbeats 400000 in
theorem appendNumber_any (B0 : Nat) (xs : List Int) (n : Int) (s : Nat) (v : Value) (w : World) (h0 : Ow B0 w v xs) (hB : B0 ≤ w.heap.size) (hn : 0 ≤ n) (hn2 : n < 18446744073709551616) (hs : s ≤ 8) (hl : xs.length ≤ 140000000000000) :
    Calls Tryd.prog 66 #[v, .int .u64 n, .int .i64 (s : Int)] w fun e w' => ∃ v', e = .returned v' ∧ Ow B0 w' v' (xs ++ be s n) ∧ Gr w w' v v' := by
  have H0 : Hid (Ow B0 w v xs) := h0
  clear h0
  go_enter Tryd.func66, Tryd.ntmps66
  go_wp2
  go_loopw [0, 7] (fun b i wr => ∃ c : Nat, c ≤ s ∧ i = .int .i64 ((s : Int) - 1 - (c : Int)) ∧ Ow B0 wr b (xs ++ (be s n).take c) ∧ Gr w wr v b) (fun _ i _ => (1 + intOf i).toNat)
  case atStart => exact ⟨0, Nat.zero_le _, by go_num, by rw [List.take_zero, List.append_nil]; exact H0.out, Gr.refl _ _⟩
  case round =>
    obtain ⟨c, hc, rfl, h1, h2⟩ := hrel
    have H1 : Hid (Ow B0 _ _ _) := h1
    have H2 : Hid (Gr _ _ _ _) := h2
    clear h1 h2
    by_cases hlt : c < s
    · have HS : Hid _ := be_snoc s n c hlt
      have hpos : 0 ≤ (s : Int) - 1 - (c : Int) := by omega
      have hz : Hid (B0 ≤ wr.heap.size) := Nat.le_trans hB H2.out.grown.size
      have hln : Hid ((xs ++ (be s n).take c).length + 1 ≤ 140737488355328) := by
        show (xs ++ (be s n).take c).length + 1 ≤ 140737488355328
        rw [List.length_append, List.length_take]; omega
      go_wp2_with (at_builtin; refine app_u8 rfl (.tmp 14) (.tmp 20) rfl (by simpa using Nat.le_succ_of_le hz.out) u0 (xs ++ (be s n).take c) rfl (H1.out.alloc _) _ rfl [dg n (s - 1 - c)] (Sl.one _ _ _) hln.out ?_; intro v1 w1 hv1 hg1 hb1 hbl1; have G1 : Hid (Ow B0 w1 v1 (xs ++ (be s n).take (c + 1))) := (by rw [HS.out, ← List.append_assoc]; exact hv1); have G2 : Hid (Gr w w1 v v1) := (H2.out.alloc _).step hg1 hbl1; clear hv1 hg1 hb1 hbl1)
      go_roundw
      case rel => exact ⟨c + 1, hlt, by go_num, G1.out, G2.out⟩
      case measure => simp [intOf]; omega
    · obtain rfl : c = s := by omega
      go_wp2
      go_ret
      exact ⟨_, rfl, by have h := H1.out; rw [List.take_of_length_le (by rw [be_length]; omega)] at h; exact h, H2.out⟩
set_option maxHeartbeats 400000 in
/-- A number in 8 bytes. -/
theorem num_any (n : Int) (w : World) (hn : 0 ≤ n) (hn2 : n < 18446744073709551616) :
    Calls Tryd.prog 73 #[.int .u64 n] w fun e w' => ∃ v', e = .returned v' ∧ Ow w.heap.size w' v' (be 8 n) ∧ Below w.heap.size w w' := by
  go_enter Tryd.func73, Tryd.ntmps73
  go_wp2_with (first
    | (at_make; refine make_u8 _ rfl _ _ rfl .i64 .i64 8 8 rfl rfl rfl (by omega) ?_; intro w1 h1 h2; have H1 : Hid (Ow w.heap.size w1 _ []) := h1; have H2 : Hid (Below w.heap.size w w1) := h2; clear h1 h2)
    | (go_at_call 66; refine (appendNumber_any w.heap.size [] n 8 _ _ H1.out H2.out.size hn hn2 (by omega) (by simp)).mono ?_; rintro e w2 ⟨v2, rfl, h3, h4⟩; have H3 : Hid (Ow w.heap.size w2 v2 (be 8 n)) := h3; have H4 : Hid (Below w.heap.size w w2) := H2.out.trans (h4.below H2.out.size (fun b e => H1.out.blk b e)); clear h3 h4))
  go_ret
  exact ⟨_, rfl, H3.out, H4.out⟩
end Go.Proofs.YtphjjjijdbljaaaDoor
/- ReadNum, the reference's ReadNum; what numbers are read as; bytes as strings. -/
namespace Go.Proofs.YtphjjjijdbljaaaDoor
open Go Go.RowKit
set_option linter.unusedSimpArgs false
set_option linter.unusedVariables false

def rnErr (xs : List Int) : Int := if xs.length = 8 then 0 else 2
def rnVal (xs : List Int) : Int := if xs.length = 8 then nm xs else 0
set_option maxHeartbeats 400000 in
theorem readNum_any (xs : List Int) (v : Value) (w : World) (hb : Byt xs) (hs : Sl w v xs) (hl : xs.length ≤ 140737488355328) :
    Calls Tryd.prog 57 #[v] w fun e w' => e = .returned (.tuple #[.int .u64 (rnVal xs), .int .i64 (rnErr xs)]) ∧ w' = w := by
  have HS : Hid (Sl w v xs) := hs
  have HB : Hid (Byt xs) := hb
  obtain ⟨ad, cap, rfl, hc, -⟩ := hs
  clear hb hc
  by_cases h8 : xs.length = 8
  · have e1 : rnVal xs = nm xs := if_pos h8
    have e2 : rnErr xs = 0 := if_pos h8
    have E1 : Hid (rnVal xs = nm xs) := e1
    have E2 : Hid (rnErr xs = 0) := e2
    clear e1 e2
    go_enter Tryd.func57, Tryd.ntmps57
    go_wp2_with (go_at_call 71; refine (numberOf_any xs _ w HB.out (by rw [← h8]; exact HS.out) hl).mono ?_; rintro e w' ⟨rfl, rfl⟩)
    go_ret2
    exact ⟨by rw [E1.out, E2.out]; rfl, rfl⟩
  · have e1 : rnVal xs = 0 := if_neg h8
    have e2 : rnErr xs = 2 := if_neg h8
    have E1 : Hid (rnVal xs = 0) := e1
    have E2 : Hid (rnErr xs = 2) := e2
    have h8' : ¬ ((xs.length : Int) = 8) := by omega
    clear e1 e2
    go_enter Tryd.func57, Tryd.ntmps57
    go_wp2
    go_ret2
    exact ⟨by rw [E1.out, E2.out]; rfl, rfl⟩
/-- The number of bytes, plainly. -/
def pv : List Int → Int
  | [] => 0
  | x :: xs => x * 256 ^ xs.length + pv xs
theorem or_low (a x : Int) (h0 : 0 ≤ a) (h1 : a < 72057594037927936) (h2 : 0 ≤ x) (h3 : x ≤ 255) : bits .or .u64 (IntKind.u64.wrap (a * 256)) x = a * 256 + x := by
  obtain ⟨m, rfl⟩ := Int.eq_ofNat_of_zero_le h0
  obtain ⟨y, rfl⟩ := Int.eq_ofNat_of_zero_le h2
  have e1 : IntKind.u64.wrap ((m : Int) * 256) = ((m * 256 : Nat) : Int) := by rw [IntKind.wrap_u64]; omega
  rw [e1]
  show IntKind.u64.wrap ((BitVec.ofInt 64 ((m * 256 : Nat) : Int) ||| BitVec.ofInt 64 (y : Int)).toNat : Int) = _
  rw [BitVec.ofInt_natCast, BitVec.ofInt_natCast, BitVec.toNat_or, BitVec.toNat_ofNat, BitVec.toNat_ofNat, Nat.mod_eq_of_lt (by omega), Nat.mod_eq_of_lt (by omega)]
  have e2 : m * 256 ||| y = m * 256 + y := by
    have := Nat.shiftLeft_add_eq_or_of_lt (i := 8) (b := y) (by omega) m
    rw [Nat.shiftLeft_eq] at this; exact this.symm
  rw [e2, IntKind.wrap_u64]; omega
theorem pv_nonneg : ∀ xs : List Int, Byt xs → 0 ≤ pv xs
  | [], _ => Int.le_refl _
  | x :: xs, h => by
    have h1 := pv_nonneg xs (fun z hz => h z (by simp [hz]))
    have h2 := (h x (by simp)).1
    have h3 : (0 : Int) ≤ 256 ^ xs.length := Int.le_of_lt (Int.pow_pos (by decide))
    have h4 := Int.mul_nonneg h2 h3
    simp only [pv]; omega
theorem nm_from : ∀ (xs : List Int) (a : Int), Byt xs → 0 ≤ a → xs.length ≤ 8 → a < 256 ^ (8 - xs.length) →
    xs.foldl (fun a x => bits .or .u64 (IntKind.u64.wrap (a * 256)) x) a = a * 256 ^ xs.length + pv xs
  | [], a, _, _, _, _ => by simp [pv]
  | x :: xs, a, hb, h0, hl, ha => by
    obtain ⟨x0, x1⟩ := hb x (by simp)
    simp only [List.length_cons] at hl ha
    have hp : (256 : Int) ^ (8 - (xs.length + 1)) ≤ 256 ^ 7 := by
      have h := Nat.pow_le_pow_right (n := 256) (by decide) (show 8 - (xs.length + 1) ≤ 7 by omega)
      have h' : ((256 ^ (8 - (xs.length + 1)) : Nat) : Int) ≤ ((256 ^ 7 : Nat) : Int) := Int.ofNat_le.2 h
      rw [Int.natCast_pow, Int.natCast_pow] at h'; exact h'
    have hq : (256 : Int) ^ (8 - xs.length) = 256 ^ (8 - (xs.length + 1)) * 256 := by rw [← Int.pow_succ]; congr 1; omega
    have e7 : (256 : Int) ^ 7 = 72057594037927936 := by decide
    rw [List.foldl_cons, or_low a x h0 (by omega) x0 x1, nm_from xs (a * 256 + x) (fun z hz => hb z (by simp [hz])) (by omega) (by omega) (by omega)]
    simp only [pv, List.length_cons, Int.pow_succ]
    rw [Int.add_mul, Int.mul_assoc, Int.mul_comm (256 : Int) (256 ^ xs.length), Int.add_assoc]
theorem nm_plain (xs : List Int) (hb : Byt xs) (hl : xs.length ≤ 8) : nm xs = pv xs := by
  unfold nm
  rw [nm_from xs 0 hb (Int.le_refl _) hl (Int.pow_pos (by decide))]; simp
theorem be_succ (s : Nat) (n : Int) : be (s + 1) n = dg n s :: be s n := by
  unfold be
  rw [List.range_succ_eq_map, List.map_cons, List.map_map]
  congr 1
  apply List.map_congr_left
  intro t ht
  show dg n (s + 1 - 1 - (t + 1)) = dg n (s - 1 - t)
  congr 1; omega
theorem pv_be (m : Nat) : ∀ s : Nat, pv (be s (m : Int)) = ((m % 256 ^ s : Nat) : Int)
  | 0 => by simp [be, pv, Nat.mod_one]
  | s + 1 => by
    rw [be_succ, pv, be_length, pv_be m s, Nat.pow_succ, Nat.mod_mul]
    have e : dg (m : Int) s = ((m / 256 ^ s % 256 : Nat) : Int) := by
      unfold dg
      rw [Int.pow_mul, show (2 : Int) ^ 8 = ((256 : Nat) : Int) from rfl, ← Int.natCast_pow, ← Int.natCast_ediv]
      rfl
    rw [e]
    rw [Int.natCast_add, Int.natCast_mul, Int.natCast_pow, Int.mul_comm, Int.add_comm]; rfl
theorem dg_byte (n : Int) (i : Nat) : 0 ≤ dg n i ∧ dg n i ≤ 255 := by unfold dg; omega
theorem be_byt (s : Nat) (n : Int) : Byt (be s n) := by
  intro z hz
  obtain ⟨t, _, rfl⟩ := List.mem_map.1 hz
  exact dg_byte _ _
theorem nm_be8 (n : Int) (hn : 0 ≤ n) (hn2 : n < 18446744073709551616) : nm (be 8 n) = n := by
  obtain ⟨m, rfl⟩ := Int.eq_ofNat_of_zero_le hn
  have h8 : 256 ^ 8 = 18446744073709551616 := by decide
  rw [nm_plain _ (be_byt _ _) (by rw [be_length]; omega), pv_be, h8, Nat.mod_eq_of_lt (by omega)]
/-- A slice of bytes as a string. -/
theorem Sl.str {w : World} {v : Value} {xs : List Int} (h : Sl w v xs) : (convert 71 9 v).run Tryd.prog w = .ok (.string (strOfNums xs)) w := by
  obtain ⟨ad, cap, rfl, hc, h⟩ := h
  rcases h with ⟨rfl, _⟩ | ⟨b, o, rfl, hlt, hm⟩
  · cases ad with
    | none => exact run_convert_bytes_nil w 71 5 Tryd.underlying71 Tryd.underlying5 0 cap 9 Tryd.underlying9
    | some A =>
      rw [run_convert_bytes_string w 71 9 5 _ _ _ Tryd.underlying71 Tryd.underlying5 Tryd.underlying9]
      exact run_bytesToString w A 0 cap [] (by simpa using run_loadCells_list (P := Tryd.prog) w A [] (fun j v hj => by simp at hj))
  · exact run_convert_bytes_arg w 71 5 Tryd.underlying71 Tryd.underlying5 b o xs.length cap xs rfl hm 9 Tryd.underlying9
end Go.Proofs.YtphjjjijdbljaaaDoor
