/- ReadNum, the reference's ReadNum; what numbers are read as; bytes as strings. -/
import Derived.Test.YtfnmdeekenjlgaaWirV
namespace Go.Proofs.Ytfnmdeekenjlgaa
open Go Go.RowKit
set_option linter.unusedSimpArgs false
set_option linter.unusedVariables false

def rnErr (xs : List Int) : Int := if xs.length = 8 then 0 else 2
def rnVal (xs : List Int) : Int := if xs.length = 8 then nm xs else 0
set_option maxHeartbeats 400000 in
theorem readNum_any (xs : List Int) (v : Value) (w : World) (hb : Byt xs) (hs : Sl w v xs) (hl : xs.length ≤ 140737488355328) :
    Calls Try.prog 30 #[v] w fun e w' => e = .returned (.tuple #[.int .u64 (rnVal xs), .int .i64 (rnErr xs)]) ∧ w' = w := by
  have HS : Hid (Sl w v xs) := hs
  have HB : Hid (Byt xs) := hb
  obtain ⟨ad, cap, rfl, hc, -⟩ := hs
  clear hb hc
  by_cases h8 : xs.length = 8
  · have e1 : rnVal xs = nm xs := if_pos h8
    have e2 : rnErr xs = 0 := if_pos h8
    have E1 : Hid (rnVal xs = nm xs) := e1
    have E2 : Hid (rnErr xs = 0) := e2
    clear e1 e2
    go_enter Try.func30, Try.ntmps30
    go_wp2_with (go_at_call 62; refine (numberOf_any xs _ w HB.out (by rw [← h8]; exact HS.out) hl).mono ?_; rintro e w' ⟨rfl, rfl⟩)
    go_ret2
    exact ⟨by rw [E1.out, E2.out]; rfl, rfl⟩
  · have e1 : rnVal xs = 0 := if_neg h8
    have e2 : rnErr xs = 2 := if_neg h8
    have E1 : Hid (rnVal xs = 0) := e1
    have E2 : Hid (rnErr xs = 2) := e2
    have h8' : ¬ ((xs.length : Int) = 8) := by omega
    clear e1 e2
    go_enter Try.func30, Try.ntmps30
    go_wp2
    go_ret2
    exact ⟨by rw [E1.out, E2.out]; rfl, rfl⟩
set_option maxHeartbeats 400000 in
theorem rreadNum_any (xs : List Int) (v : Value) (w : World) (hb : Byt xs) (hs : Sl w v xs) (hl : xs.length ≤ 140737488355328) :
    Calls Try.prog 35 #[v] w fun e w' => e = .returned (.tuple #[.int .u64 (rnVal xs), .int .i64 (rnErr xs)]) ∧ w' = w := by
  have HB : Hid (Byt xs) := hb
  obtain ⟨ad, cap, rfl, hc, hx⟩ := hs
  have HX : Hid _ := hx
  clear hb hc hx
  by_cases h8 : xs.length = 8
  · have e1 : rnVal xs = nm xs := if_pos h8
    have e2 : rnErr xs = 0 := if_pos h8
    have E1 : Hid (rnVal xs = nm xs) := e1
    have E2 : Hid (rnErr xs = 0) := e2
    clear e1 e2
    go_enter Try.func35, Try.ntmps35
    go_wp2
    go_loop [4, 11] (fun n i => ∃ k : Nat, k ≤ xs.length ∧ i = .int .i64 k ∧ n = .int .u64 (nm (xs.take k))) (fun _ i => xs.length - (intOf i).toNat)
    case atStart => exact ⟨0, Nat.zero_le _, rfl, rfl⟩
    case round =>
      obtain ⟨k, hk, rfl, rfl⟩ := hrel
      by_cases hlt : k < xs.length
      · have HS : Hid _ := nm_snoc xs k hlt
        obtain ⟨g1, g2⟩ := Byt.get HB.out hlt
        rcases HX.out with ⟨rfl, _⟩ | ⟨b, o, rfl, hlb, hm⟩
        · simp at hlt
        · have hc0 := hm k hlt
          clear hm
          rw [h8] at hlt
          have gk : (k : Int) < 8 := by omega
          go_wp2
          go_round
          case rel => exact ⟨k + 1, by omega, by go_num, by rw [HS.out]⟩
          case measure => simp [intOf]; omega
      · rw [h8] at hlt
        go_wp2
        go_ret2
        exact ⟨by rw [E1.out, E2.out, List.take_of_length_le (by omega)]; rfl, rfl⟩
  · have e1 : rnVal xs = 0 := if_neg h8
    have e2 : rnErr xs = 2 := if_neg h8
    have E1 : Hid (rnVal xs = 0) := e1
    have E2 : Hid (rnErr xs = 2) := e2
    have h8' : ¬ ((xs.length : Int) = 8) := by omega
    clear e1 e2
    go_enter Try.func35, Try.ntmps35
    go_wp2
    go_ret2
    exact ⟨by rw [E1.out, E2.out]; rfl, rfl⟩
/-- The number of bytes, plainly. -/
def pv : List Int → Int
  | [] => 0
  | x :: xs => x * 256 ^ xs.length + pv xs
theorem or_low (a x : Int) (h0 : 0 ≤ a) (h1 : a < 72057594037927936) (h2 : 0 ≤ x) (h3 : x ≤ 255) : bits .or .u64 (IntKind.u64.wrap (a * 256)) x = a * 256 + x := by
  obtain ⟨m, rfl⟩ := Int.eq_ofNat_of_zero_le h0
  obtain ⟨y, rfl⟩ := Int.eq_ofNat_of_zero_le h2
  have e1 : IntKind.u64.wrap ((m : Int) * 256) = ((m * 256 : Nat) : Int) := by rw [IntKind.wrap_u64]; omega
  rw [e1]
  show IntKind.u64.wrap ((BitVec.ofInt 64 ((m * 256 : Nat) : Int) ||| BitVec.ofInt 64 (y : Int)).toNat : Int) = _
  rw [BitVec.ofInt_natCast, BitVec.ofInt_natCast, BitVec.toNat_or, BitVec.toNat_ofNat, BitVec.toNat_ofNat, Nat.mod_eq_of_lt (by omega), Nat.mod_eq_of_lt (by omega)]
  have e2 : m * 256 ||| y = m * 256 + y := by
    have := Nat.shiftLeft_add_eq_or_of_lt (i := 8) (b := y) (by omega) m
    rw [Nat.shiftLeft_eq] at this; exact this.symm
  rw [e2, IntKind.wrap_u64]; omega
theorem pv_nonneg : ∀ xs : List Int, Byt xs → 0 ≤ pv xs
  | [], _ => Int.le_refl _
  | x :: xs, h => by
    have h1 := pv_nonneg xs (fun z hz => h z (by simp [hz]))
    have h2 := (h x (by simp)).1
    have h3 : (0 : Int) ≤ 256 ^ xs.length := Int.le_of_lt (Int.pow_pos (by decide))
    have h4 := Int.mul_nonneg h2 h3
    simp only [pv]; omega
theorem nm_from : ∀ (xs : List Int) (a : Int), Byt xs → 0 ≤ a → xs.length ≤ 8 → a < 256 ^ (8 - xs.length) →
    xs.foldl (fun a x => bits .or .u64 (IntKind.u64.wrap (a * 256)) x) a = a * 256 ^ xs.length + pv xs
  | [], a, _, _, _, _ => by simp [pv]
  | x :: xs, a, hb, h0, hl, ha => by
    obtain ⟨x0, x1⟩ := hb x (by simp)
    simp only [List.length_cons] at hl ha
    have hp : (256 : Int) ^ (8 - (xs.length + 1)) ≤ 256 ^ 7 := by
      have h := Nat.pow_le_pow_right (n := 256) (by decide) (show 8 - (xs.length + 1) ≤ 7 by omega)
      have h' : ((256 ^ (8 - (xs.length + 1)) : Nat) : Int) ≤ ((256 ^ 7 : Nat) : Int) := Int.ofNat_le.2 h
      rw [Int.natCast_pow, Int.natCast_pow] at h'; exact h'
    have hq : (256 : Int) ^ (8 - xs.length) = 256 ^ (8 - (xs.length + 1)) * 256 := by rw [← Int.pow_succ]; congr 1; omega
    have e7 : (256 : Int) ^ 7 = 72057594037927936 := by decide
    rw [List.foldl_cons, or_low a x h0 (by omega) x0 x1, nm_from xs (a * 256 + x) (fun z hz => hb z (by simp [hz])) (by omega) (by omega) (by omega)]
    simp only [pv, List.length_cons, Int.pow_succ]
    rw [Int.add_mul, Int.mul_assoc, Int.mul_comm (256 : Int) (256 ^ xs.length), Int.add_assoc]
theorem nm_plain (xs : List Int) (hb : Byt xs) (hl : xs.length ≤ 8) : nm xs = pv xs := by
  unfold nm
  rw [nm_from xs 0 hb (Int.le_refl _) hl (Int.pow_pos (by decide))]; simp
theorem be_succ (s : Nat) (n : Int) : be (s + 1) n = dg n s :: be s n := by
  unfold be
  rw [List.range_succ_eq_map, List.map_cons, List.map_map]
  congr 1
  apply List.map_congr_left
  intro t ht
  show dg n (s + 1 - 1 - (t + 1)) = dg n (s - 1 - t)
  congr 1; omega
theorem pv_be (m : Nat) : ∀ s : Nat, pv (be s (m : Int)) = ((m % 256 ^ s : Nat) : Int)
  | 0 => by simp [be, pv, Nat.mod_one]
  | s + 1 => by
    rw [be_succ, pv, be_length, pv_be m s, Nat.pow_succ, Nat.mod_mul]
    have e : dg (m : Int) s = ((m / 256 ^ s % 256 : Nat) : Int) := by
      unfold dg
      rw [Int.pow_mul, show (2 : Int) ^ 8 = ((256 : Nat) : Int) from rfl, ← Int.natCast_pow, ← Int.natCast_ediv]
      rfl
    rw [e]
    rw [Int.natCast_add, Int.natCast_mul, Int.natCast_pow, Int.mul_comm, Int.add_comm]; rfl
theorem dg_byte (n : Int) (i : Nat) : 0 ≤ dg n i ∧ dg n i ≤ 255 := by unfold dg; omega
theorem be_byt (s : Nat) (n : Int) : Byt (be s n) := by
  intro z hz
  obtain ⟨t, _, rfl⟩ := List.mem_map.1 hz
  exact dg_byte _ _
theorem nm_be8 (n : Int) (hn : 0 ≤ n) (hn2 : n < 18446744073709551616) : nm (be 8 n) = n := by
  obtain ⟨m, rfl⟩ := Int.eq_ofNat_of_zero_le hn
  have h8 : 256 ^ 8 = 18446744073709551616 := by decide
  rw [nm_plain _ (be_byt _ _) (by rw [be_length]; omega), pv_be, h8, Nat.mod_eq_of_lt (by omega)]
/-- A slice of bytes as a string. -/
theorem Sl.str {w : World} {v : Value} {xs : List Int} (h : Sl w v xs) : (convert 34 9 v).run Try.prog w = .ok (.string (strOfNums xs)) w := by
  obtain ⟨ad, cap, rfl, hc, h⟩ := h
  rcases h with ⟨rfl, _⟩ | ⟨b, o, rfl, hlt, hm⟩
  · cases ad with
    | none => exact run_convert_bytes_nil w 34 5 Try.underlying34 Try.underlying5 0 cap 9 Try.underlying9
    | some A =>
      rw [run_convert_bytes_string w 34 9 5 _ _ _ Try.underlying34 Try.underlying5 Try.underlying9]
      exact run_bytesToString w A 0 cap [] (by simpa using run_loadCells_list (P := Try.prog) w A [] (fun j v hj => by simp at hj))
  · exact run_convert_bytes_arg w 34 5 Try.underlying34 Try.underlying5 b o xs.length cap xs rfl hm 9 Try.underlying9
end Go.Proofs.Ytfnmdeekenjlgaa
/- Lists of byte strings: sizeOf, Encode. -/
namespace Go.Proofs.Ytfnmdeekenjlgaa
open Go Go.RowKit
set_option linter.unusedSimpArgs false
set_option linter.unusedVariables false

/-- The member at a place. -/
def mi (xss : List (List Int)) (i : Nat) : List Int := xss.getD i []
theorem mi_get {xss : List (List Int)} {i : Nat} (h : i < xss.length) : mi xss i = xss[i] := by simp [mi, List.getD, List.getElem?_eq_getElem h]
/-- A slice that holds these byte strings. -/
def LL (w : World) (v : Value) (xss : List (List Int)) : Prop :=
  ∃ ad cap, v = .slice ad xss.length cap ∧ xss.length ≤ cap ∧ ((xss = [] ∧ (ad = none → cap = 0)) ∨ ∃ b o, ad = some ⟨b, o, none⟩ ∧ b < w.heap.size ∧ ∀ i, i < xss.length → ∃ u, w.cell? ⟨b, o + i, none⟩ = some u ∧ Sl w u (mi xss i))
theorem LL.below {w w' : World} {v : Value} {xss : List (List Int)} (h : LL w v xss) (hb : Below w.heap.size w w') : LL w' v xss := by
  obtain ⟨ad, cap, rfl, hc, h⟩ := h
  refine ⟨ad, cap, rfl, hc, ?_⟩
  rcases h with h | ⟨b, o, rfl, hlt, hm⟩
  · exact .inl h
  · refine .inr ⟨b, o, rfl, Nat.lt_of_lt_of_le hlt hb.size, fun i hi => ?_⟩
    obtain ⟨u, h1, h2⟩ := hm i hi
    exact ⟨u, (hb.cell (p := ⟨b, o + i, none⟩) hlt).trans h1, h2.below hb (Nat.le_refl _)⟩
/-- How many bytes the first k members take, and the count ahead of them. -/
def sz (xss : List (List Int)) : Nat → Nat
  | 0 => 4
  | k + 1 => sz xss k + 4 + (mi xss k).length
theorem sz_mono (xss : List (List Int)) {j : Nat} : ∀ k, j ≤ k → sz xss j ≤ sz xss k
  | 0, h => by obtain rfl : j = 0 := by omega
               exact Nat.le_refl _
  | k + 1, h => by
    by_cases e : j = k + 1
    · subst e; exact Nat.le_refl _
    · have := sz_mono xss k (show j ≤ k by omega); simp only [sz]; omega
/-- Too many members, or too many bytes. -/
def big (xss : List (List Int)) : Bool := decide (65536 < xss.length ∨ 1048576 < sz xss xss.length)
theorem big_of {xss : List (List Int)} {k : Nat} (hk : k ≤ xss.length) (h : 1048576 < sz xss k) : big xss = true :=
  decide_eq_true (.inr (Nat.lt_of_lt_of_le h (sz_mono xss _ hk)))
def szR (xss : List (List Int)) : Int := if big xss = true then 0 else (sz xss xss.length : Int)
def okR (xss : List (List Int)) : Bool := !big xss
theorem szR_big {xss : List (List Int)} (h : big xss = true) : szR xss = 0 ∧ okR xss = false := by unfold szR okR; rw [h]; exact ⟨rfl, rfl⟩
theorem szR_ok {xss : List (List Int)} (h : big xss = false) : szR xss = (sz xss xss.length : Int) ∧ okR xss = true := by unfold szR okR; rw [h]; exact ⟨rfl, rfl⟩
/-- Members of lengths that the model has. -/
def Lens (xss : List (List Int)) : Prop := ∀ i, i < xss.length → (mi xss i).length ≤ 140737488355328
set_option maxHeartbeats 400000 in
theorem sizeOf_any (xss : List (List Int)) (v : Value) (w : World) (hs : LL w v xss) (hL : Lens xss) (hn : xss.length ≤ 140737488355328) :
    Calls Try.prog 51 #[v] w fun e w' => e = .returned (.tuple #[.int .i64 (szR xss), .bool (okR xss)]) ∧ w' = w := by
  obtain ⟨ad, cap, rfl, hc, hx⟩ := hs
  have HX : Hid _ := hx
  have HL : Hid (Lens xss) := hL
  clear hx hL hc
  by_cases h0 : 65536 < xss.length
  · have E : Hid (szR xss = 0 ∧ okR xss = false) := szR_big (decide_eq_true (.inl h0))
    have h0' : (65536 : Int) < (xss.length : Int) := by omega
    go_enter Try.func51, Try.ntmps51
    go_wp2
    go_ret2
    exact ⟨by rw [E.out.1, E.out.2]; rfl, rfl⟩
  · have h0' : ¬ (65536 : Int) < (xss.length : Int) := by omega
    go_enter Try.func51, Try.ntmps51
    go_wp2
    go_loop [2, 11] (fun s i => ∃ k : Nat, k ≤ xss.length ∧ sz xss k ≤ 1048576 ∧ i = .int .i64 k ∧ s = .int .i64 (sz xss k)) (fun _ i => xss.length - (intOf i).toNat)
    case atStart => exact ⟨0, Nat.zero_le _, by simp [sz], rfl, rfl⟩
    case round =>
      obtain ⟨k, hk, hz, rfl, rfl⟩ := hrel
      by_cases hlt : k < xss.length
      · rcases HX.out with ⟨rfl, _⟩ | ⟨b, o, rfl, hlb, hm⟩
        · simp at hlt
        · obtain ⟨u, hc0, hu⟩ := hm k hlt
          have hl := HL.out k hlt
          obtain ⟨ad, cp, rfl, -, -⟩ := hu
          clear hm
          have HS : Hid (sz xss (k + 1) = sz xss k + 4 + (mi xss k).length) := rfl
          obtain ⟨Z, hZ⟩ : ∃ Z, sz xss k = Z := ⟨_, rfl⟩
          obtain ⟨L, hLL⟩ : ∃ L, (mi xss k).length = L := ⟨_, rfl⟩
          rw [hZ, hLL] at HS
          rw [hLL] at hl hc0
          rw [hZ] at hz ⊢
          by_cases hb : 1048576 < Z + 4 + L
          · have E : Hid (szR xss = 0 ∧ okR xss = false) := szR_big (big_of (k := k + 1) hlt (by rw [HS.out]; exact hb))
            have hb' : (1048576 : Int) - (Z : Int) - 4 < (L : Int) := by omega
            clear hZ hLL
            go_wp2
            go_ret2
            exact ⟨by rw [E.out.1, E.out.2]; rfl, rfl⟩
          · have hb' : ¬ (1048576 : Int) - (Z : Int) - 4 < (L : Int) := by omega
            clear hZ hLL
            go_wp2
            go_round
            case rel => exact ⟨k + 1, by omega, by rw [HS.out]; omega, by go_num, by rw [HS.out]; go_num⟩
            case measure => simp [intOf]; omega
      · obtain rfl : k = xss.length := by omega
        have E : Hid (szR xss = (sz xss xss.length : Int) ∧ okR xss = true) := szR_ok (decide_eq_false (by omega))
        go_wp2
        go_ret2
        exact ⟨by rw [E.out.1, E.out.2]; rfl, rfl⟩
/-- The bytes of a list's first k members, behind the count. -/
def encK (xss : List (List Int)) : Nat → List Int
  | 0 => be 4 (xss.length : Int)
  | k + 1 => (encK xss k ++ be 4 ((mi xss k).length : Int)) ++ mi xss k
theorem encK_length (xss : List (List Int)) : ∀ k, (encK xss k).length = sz xss k
  | 0 => be_length _ _
  | k + 1 => by simp only [encK, List.length_append, encK_length xss k, be_length, sz]
def encE (xss : List (List Int)) : Int := if big xss = true then 6 else 0
def encB (xss : List (List Int)) : List Int := if big xss = true then [] else encK xss xss.length
theorem encE_big {xss : List (List Int)} (h : big xss = true) : encE xss = 6 ∧ encB xss = [] := by unfold encE encB; rw [h]; exact ⟨rfl, rfl⟩
theorem encE_ok {xss : List (List Int)} (h : big xss = false) : encE xss = 0 ∧ encB xss = encK xss xss.length := by unfold encE encB; rw [h]; exact ⟨rfl, rfl⟩
theorem small_of {xss : List (List Int)} (h : big xss = false) : xss.length ≤ 65536 ∧ sz xss xss.length ≤ 1048576 := by
  have := of_decide_eq_false h; omega
set_option maxHeartbeats 400000 in
theorem encode_any (xss : List (List Int)) (v : Value) (w : World) (hs : LL w v xss) (hL : Lens xss) (hn : xss.length ≤ 140737488355328) :
    Calls Try.prog 16 #[v] w fun e w' => ∃ v', e = .returned (.tuple #[v', .int .i64 (encE xss)]) ∧ Ow w.heap.size w' v' (encB xss) ∧ Below w.heap.size w w' := by
  have HS : Hid (LL w v xss) := hs
  have HL : Hid (Lens xss) := hL
  obtain ⟨ad, cap, rfl, hc, hx⟩ := hs
  have HX : Hid _ := hx
  clear hx hL hc
  cases hb : big xss with
  | true =>
    have E : Hid (szR xss = 0 ∧ okR xss = false) := szR_big hb
    have F : Hid (encE xss = 6 ∧ encB xss = []) := encE_big hb
    clear hb
    go_enter Try.func16, Try.ntmps16
    go_wp2_with (go_at_call 51; refine (sizeOf_any xss _ w HS.out HL.out hn).mono ?_; rintro e w' ⟨rfl, rfl⟩; rw [E.out.1, E.out.2])
    go_ret2
    exact ⟨_, by rw [F.out.1]; rfl, by rw [F.out.2]; exact Ow.nil _ _, Below.refl _ _⟩
  | false =>
    have E : Hid (szR xss = (sz xss xss.length : Int) ∧ okR xss = true) := szR_ok hb
    have F : Hid (encE xss = 0 ∧ encB xss = encK xss xss.length) := encE_ok hb
    obtain ⟨hn1, hz1⟩ := small_of hb
    clear hb
    have HZ : Hid (∀ k, k ≤ xss.length → sz xss k ≤ 1048576) := fun k hk => Nat.le_trans (sz_mono xss _ hk) hz1
    obtain ⟨Z, hZ⟩ : ∃ Z, sz xss xss.length = Z := ⟨_, rfl⟩
    rw [hZ] at E hz1
    clear hZ
    go_enter Try.func16, Try.ntmps16
    go_wp2_with (first
      | (go_at_call 51; refine (sizeOf_any xss _ w HS.out HL.out hn).mono ?_; rintro e w' ⟨rfl, rfl⟩; rw [E.out.1, E.out.2])
      | (at_make; refine make_u8 _ rfl _ _ rfl .i64 .i64 Z Z rfl rfl rfl (by omega) ?_; intro w1 h1 h2; have H1 : Hid (Ow _ w1 _ []) := h1; have H2 : Hid (Below _ _ w1) := h2; clear h1 h2)
      | (go_at_call 52; refine (appendNumber_any _ [] (xss.length : Int) 4 _ _ H1.out H2.out.size (by omega) (by omega) (by omega) (by simp)).mono ?_; rintro e w2 ⟨v2, rfl, h3, h4⟩; have H3 : Hid (Ow _ w2 v2 (encK xss 0)) := h3; have H4 : Hid (Below _ _ w2) := H2.out.trans (h4.below H2.out.size (fun b e => H1.out.blk b e)); clear h3 h4))
    go_loopw [6, 24] (fun b i wr => ∃ k : Nat, k ≤ xss.length ∧ i = .int .i64 (k : Int) ∧ Ow w'.heap.size wr b (encK xss k) ∧ Below w'.heap.size w' wr) (fun _ i _ => xss.length - (intOf i).toNat)
    case atStart => exact ⟨0, Nat.zero_le _, rfl, H3.out, H4.out⟩
    case round =>
      obtain ⟨k, hk, rfl, h5, h6⟩ := hrel
      have H5 : Hid (Ow w'.heap.size wr u6 (encK xss k)) := h5
      have H6 : Hid (Below w'.heap.size w' wr) := h6
      clear h5 h6 H3 H4 H1 H2
      by_cases hlt : k < xss.length
      · rcases HX.out with ⟨rfl, _⟩ | ⟨b, o, rfl, hlb, hm⟩
        · simp at hlt
        · obtain ⟨u, hc0, hu⟩ := hm k hlt
          have hl := HL.out k hlt
          have hc1 := (H6.out.cell (p := ⟨b, o + k, none⟩) hlb).trans hc0
          have SU : Hid (Sl w' u (mi xss k)) := hu
          obtain ⟨ad, cp, rfl, -, -⟩ := hu
          clear hm hc0
          have ZK : Hid ((encK xss k).length ≤ 1048576) := by show (encK xss k).length ≤ 1048576; rw [encK_length]; exact HZ.out k hk
          have HK : Hid (encK xss (k + 1) = (encK xss k ++ be 4 ((mi xss k).length : Int)) ++ mi xss k) := rfl
          have GL : Hid ((mi xss k).length ≤ 1048576) := by
            have h1 := HZ.out (k + 1) hlt
            simp only [sz] at h1
            show (mi xss k).length ≤ 1048576; omega
          obtain ⟨M, hM⟩ : ∃ M, mi xss k = M := ⟨_, rfl⟩
          obtain ⟨L, hLL⟩ : ∃ L, M.length = L := ⟨_, rfl⟩
          rw [hM] at SU HK GL hl hc1
          have HLL : Hid (M.length = L) := hLL
          rw [hLL] at SU HK GL hl hc1
          have gl : L ≤ 1048576 := GL.out
          clear hM hLL GL
          go_wp2_with (first
            | (go_at_call 52; refine (appendNumber_any w'.heap.size (encK xss k) (L : Int) 4 _ _ H5.out H6.out.size (by omega) (by omega) (by omega) (by have := ZK.out; omega)).mono ?_; rintro e w7 ⟨v7, rfl, h7, h8⟩; have H7 : Hid (Ow w'.heap.size w7 v7 (encK xss k ++ be 4 (L : Int))) := h7; have H8 : Hid (Below w'.heap.size wr w7) := h8.below H6.out.size (fun b e => H5.out.blk b e); have S7 : Hid (Sl w7 (.slice ad L cp) M) := SU.out.below (H6.out.trans H8.out) (Nat.le_refl _); clear h7 h8)
            | (at_builtin; refine app_u8 rfl (.tmp 33) (.tmp 34) rfl (Nat.le_trans H6.out.size H8.out.size) v7 _ rfl H7.out _ rfl M S7.out (by rw [List.length_append, be_length, HLL.out]; have := ZK.out; omega) ?_; intro v8 w8 h9 h10 h11 h12; have H9 : Hid (Ow w'.heap.size w8 v8 (encK xss (k + 1))) := (by rw [HK.out]; exact h9); have H10 : Hid (Below w'.heap.size w' w8) := H6.out.trans (H8.out.trans h11); clear h9 h10 h11 h12))
          exact ⟨⟨k + 1, hlt, by go_num, H9.out, H10.out⟩, by simp [intOf]; omega⟩
      · obtain rfl : k = xss.length := by omega
        go_wp2
        go_ret2
        exact ⟨_, by rw [F.out.1]; rfl, by rw [F.out.2]; exact H5.out, H6.out⟩
end Go.Proofs.Ytfnmdeekenjlgaa
