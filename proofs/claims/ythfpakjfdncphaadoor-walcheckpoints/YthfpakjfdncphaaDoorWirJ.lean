/- Cutting counts and members off: cutCount, cutMember, bytes.Clone. -/
import Derived.Test.YthfpakjfdncphaaDoorWirE
import Derived.Deep.QuietTactic
import Derived.BigQuiet
import Derived.WalkSmall
namespace Go.Proofs.YthfpakjfdncphaaDoor
open Go Go.RowKit
set_option linter.unusedSimpArgs false
set_option linter.unusedVariables false

theorem Byt.take {xs : List Int} (h : Byt xs) (n : Nat) : Byt (xs.take n) := fun z hz => h z (List.mem_of_mem_take hz)
theorem Byt.drop {xs : List Int} (h : Byt xs) (n : Nat) : Byt (xs.drop n) := fun z hz => h z (List.mem_of_mem_drop hz)
theorem pv_lt : ∀ xs : List Int, Byt xs → pv xs < 256 ^ xs.length
  | [], _ => by decide
  | x :: xs, h => by
    have h1 := pv_lt xs (fun z hz => h z (by simp [hz]))
    have h2 := (h x (by simp)).2
    have h3 : (0 : Int) < 256 ^ xs.length := Int.pow_pos (by decide)
    have h4 : x * 256 ^ xs.length ≤ 255 * 256 ^ xs.length := Int.mul_le_mul_of_nonneg_right h2 (Int.le_of_lt h3)
    simp only [pv, List.length_cons, Int.pow_succ]
    omega
/-- The count at the beginning. -/
def cnt (xs : List Int) : Nat := (nm (xs.take 4)).toNat
theorem cnt_nm {xs : List Int} (h : Byt xs) : nm (xs.take 4) = (cnt xs : Int) ∧ cnt xs < 4294967296 := by
  have hl : (xs.take 4).length ≤ 4 := by rw [List.length_take]; omega
  have e := nm_plain (xs.take 4) (h.take 4) (by omega)
  have h1 := pv_nonneg _ (h.take 4)
  have h2 := pv_lt _ (h.take 4)
  have h3 : (256 : Int) ^ (xs.take 4).length ≤ 256 ^ 4 := by
    have h := Nat.pow_le_pow_right (n := 256) (by decide) hl
    have h' : ((256 ^ (xs.take 4).length : Nat) : Int) ≤ ((256 ^ 4 : Nat) : Int) := Int.ofNat_le.2 h
    rw [Int.natCast_pow, Int.natCast_pow] at h'; exact h'
  have e4 : (256 : Int) ^ 4 = 4294967296 := by decide
  unfold cnt
  rw [e]
  omega
theorem gi_take {xs : List Int} {i n : Nat} (h : i < n) : gi (xs.take n) i = gi xs i := by
  unfold gi; simp only [List.getD_eq_getElem?_getD, List.getElem?_take, if_pos h]
theorem gi_drop {xs : List Int} {i n : Nat} : gi (xs.drop n) i = gi xs (n + i) := by
  unfold gi; simp only [List.getD_eq_getElem?_getD, List.getElem?_drop]
/-- A slice's beginning, and what is behind it. -/
theorem Sl.cut {w : World} {b o l cap : Nat} {xs : List Int} (h : Sl w (.slice (some ⟨b, o, none⟩) l cap) xs) (n : Nat) (hn : n ≤ l) :
    Sl w (.slice (some ⟨b, o, none⟩) n cap) (xs.take n) ∧ Sl w (.slice (if cap = n then some ⟨b, o, none⟩ else some ⟨b, o + n, none⟩) (l - n) (cap - n)) (xs.drop n) := by
  obtain ⟨ad, cap', hv, hc, h⟩ := h
  simp only [Value.slice.injEq] at hv
  obtain ⟨rfl, rfl, rfl⟩ := hv
  have l1 : (xs.take n).length = n := by rw [List.length_take]; omega
  have l2 : (xs.drop n).length = xs.length - n := List.length_drop ..
  refine ⟨⟨_, cap, by rw [l1], by rw [l1]; omega, ?_⟩, ⟨_, cap - n, by rw [l2], by rw [l2]; omega, ?_⟩⟩
  · rcases h with ⟨rfl, _⟩ | ⟨b', o', he, hlt, hm⟩
    · exact .inl ⟨by simp, fun e => by cases e⟩
    · simp only [Option.some.injEq, Addr.mk.injEq, and_true] at he
      obtain ⟨rfl, rfl⟩ := he
      exact .inr ⟨b, o, rfl, hlt, fun i hi => by rw [l1] at hi; rw [gi_take hi]; exact hm i (by omega)⟩
  · rcases h with ⟨rfl, _⟩ | ⟨b', o', he, hlt, hm⟩
    · exact .inl ⟨by simp, fun e => by split at e <;> cases e⟩
    · simp only [Option.some.injEq, Addr.mk.injEq, and_true] at he
      obtain ⟨rfl, rfl⟩ := he
      by_cases e : cap = n
      · rw [if_pos e]
        exact .inl ⟨List.drop_eq_nil_of_le (by omega), fun e => by cases e⟩
      · rw [if_neg e]
        exact .inr ⟨b, o + n, rfl, hlt, fun i hi => by rw [l2] at hi; rw [gi_drop, Nat.add_assoc]; exact hm (n + i) (by omega)⟩
/-- A slice that is not empty lies somewhere. -/
theorem Sl.lies {w : World} {v : Value} {xs : List Int} (h : Sl w v xs) (h0 : 0 < xs.length) : ∃ b o cap, v = .slice (some ⟨b, o, none⟩) xs.length cap ∧ xs.length ≤ cap ∧ b < w.heap.size := by
  obtain ⟨ad, cap, rfl, hc, h⟩ := h
  rcases h with ⟨rfl, _⟩ | ⟨b, o, rfl, hb, _⟩
  · simp at h0
  · exact ⟨b, o, cap, rfl, hc, hb⟩
/-- A member at the beginning: there, and what is behind it. -/
def hasM (xs : List Int) : Bool := decide (4 ≤ xs.length ∧ cnt xs ≤ xs.length - 4)
theorem not_nil (ad : Addr) (l c : Nat) (w : World) : (binOp .eql 32 (.slice (some ad) l c) (.slice none 0 0)).run Tryd.prog w = .ok (.bool false) w := by kernel_rfl
set_option maxHeartbeats 1000000 in
/-- A copy. -/
theorem clone_any (xs : List Int) (v : Value) (w : World) (hs : Sl w v xs) (hl : xs.length ≤ 1048576) (hv : ∃ ad l c, v = .slice (some ad) l c) :
    Calls Tryd.prog 29 #[v] w fun e w' => ∃ v', e = .returned v' ∧ Ow w.heap.size w' v' xs ∧ Below w.heap.size w w' := by
  have HS : Hid (Sl w v xs) := hs
  obtain ⟨ad, l, c, rfl⟩ := hv
  obtain rfl : l = xs.length := by obtain ⟨_, _, h, _⟩ := hs; simp at h; exact h.2.1
  clear hs
  have hnn := not_nil ad xs.length c w
  go_enter Tryd.func29, Tryd.ntmps29
  go_wp2_with (at_builtin; refine app_u8 (B0 := w.heap.size) rfl _ _ rfl (by simp) _ [] rfl (Ow.lit w [] #[] 0 rfl rfl (by simp)) _ rfl xs (HS.out.below ((Below.refl _ w).alloc (Nat.le_refl _) _) (Nat.le_refl _)) (by simp; omega) ?_; intro v1 w1 h1 h2 h3 h4; rw [List.nil_append] at h1; have H1 : Hid (Ow w.heap.size w1 v1 xs) := h1; have H3 : Hid (Below w.heap.size w w1) := ((Below.refl _ w).alloc (Nat.le_refl _) _).trans h3; clear h1 h2 h3 h4)
  go_ret
  exact ⟨_, rfl, H1.out, H3.out⟩
end Go.Proofs.YthfpakjfdncphaaDoor
/- Decode. -/
namespace Go.Proofs.YthfpakjfdncphaaDoor
open Go Go.RowKit
set_option linter.unusedSimpArgs false
set_option linter.unusedVariables false

/-- The member at the beginning, and what is behind it. -/
def mem1 (r : List Int) : List Int := (r.drop 4).take (cnt r)
def rest1 (r : List Int) : List Int := r.drop (4 + cnt r)
/-- Behind k members. -/
def dk (xs : List Int) : Nat → Option (List (List Int) × List Int)
  | 0 => some ([], xs.drop 4)
  | k + 1 => (dk xs k).bind fun p => if hasM p.2 = true then some (p.1 ++ [mem1 p.2], rest1 p.2) else none
theorem dk_yes {xs : List Int} {k : Nat} {l : List (List Int)} {r : List Int} (h : dk xs k = some (l, r)) (hm : hasM r = true) : dk xs (k + 1) = some (l ++ [mem1 r], rest1 r) := by
  simp only [dk, h, Option.bind_some, hm, if_true]
theorem dk_no {xs : List Int} {k : Nat} {l : List (List Int)} {r : List Int} (h : dk xs k = some (l, r)) (hm : hasM r = false) : ∀ j, dk xs (k + 1 + j) = none
  | 0 => by simp only [dk, h, Option.bind_some, hm]; rfl
  | j + 1 => by rw [← Nat.add_assoc]; simp only [dk, dk_no h hm j, Option.bind_none]
theorem dk_inv {xs : List Int} (hb : Byt xs) : ∀ {k : Nat} {l : List (List Int)} {r : List Int}, dk xs k = some (l, r) → l.length = k ∧ Byt r ∧ r.length ≤ xs.length ∧ (∀ m ∈ l, Byt m ∧ m.length ≤ xs.length)
  | 0, l, r, h => by
    simp only [dk, Option.some.injEq, Prod.mk.injEq] at h
    obtain ⟨rfl, rfl⟩ := h
    exact ⟨rfl, hb.drop 4, by rw [List.length_drop]; omega, fun m hm => by cases hm⟩
  | k + 1, l, r, h => by
    simp only [dk] at h
    cases hd : dk xs k with
    | none => rw [hd] at h; cases h
    | some p =>
      obtain ⟨l', r'⟩ := p
      rw [hd] at h
      obtain ⟨h1, h2, h3, h4⟩ := dk_inv hb hd
      simp only [Option.bind_some] at h
      split at h
      · simp only [Option.some.injEq, Prod.mk.injEq] at h
        obtain ⟨rfl, rfl⟩ := h
        refine ⟨by simp [h1], h2.drop _, by unfold rest1; rw [List.length_drop]; omega, fun m hm => ?_⟩
        rcases List.mem_append.1 hm with hm | hm
        · exact h4 m hm
        · simp at hm; subst hm
          exact ⟨(h2.drop 4).take _, by unfold mem1; rw [List.length_take, List.length_drop]; omega⟩
      · cases h
/-- What Decode answers. -/
def decP (xs : List Int) : Int × List (List Int) :=
  if 1048576 < xs.length then (6, []) else
  if xs.length < 4 ∨ 65536 < cnt xs then (2, []) else
  match dk xs (cnt xs) with
  | none => (2, [])
  | some (l, r) => if r.length = 0 then (0, l) else (2, [])
def decE (xs : List Int) : Int := (decP xs).1
def decL (xs : List Int) : List (List Int) := (decP xs).2
theorem dec_large {xs : List Int} (h : 1048576 < xs.length) : decE xs = 6 ∧ decL xs = [] := by unfold decE decL decP; rw [if_pos h]; exact ⟨rfl, rfl⟩
theorem dec_form {xs : List Int} (h : ¬ 1048576 < xs.length) (h' : xs.length < 4 ∨ 65536 < cnt xs) : decE xs = 2 ∧ decL xs = [] := by unfold decE decL decP; rw [if_neg h, if_pos h']; exact ⟨rfl, rfl⟩
theorem dec_none {xs : List Int} (h : ¬ 1048576 < xs.length) (h' : ¬ (xs.length < 4 ∨ 65536 < cnt xs)) (hd : dk xs (cnt xs) = none) : decE xs = 2 ∧ decL xs = [] := by
  unfold decE decL decP; rw [if_neg h, if_neg h', hd]; exact ⟨rfl, rfl⟩
theorem dec_rest {xs : List Int} {l : List (List Int)} {r : List Int} (h : ¬ 1048576 < xs.length) (h' : ¬ (xs.length < 4 ∨ 65536 < cnt xs)) (hd : dk xs (cnt xs) = some (l, r)) (hr : r.length ≠ 0) : decE xs = 2 ∧ decL xs = [] := by
  unfold decE decL decP; rw [if_neg h, if_neg h', hd]; simp [hr]
theorem dec_ok {xs : List Int} {l : List (List Int)} {r : List Int} (h : ¬ 1048576 < xs.length) (h' : ¬ (xs.length < 4 ∨ 65536 < cnt xs)) (hd : dk xs (cnt xs) = some (l, r)) (hr : r.length = 0) : decE xs = 0 ∧ decL xs = l := by
  unfold decE decL decP; rw [if_neg h, if_neg h', hd]; simp [hr]
end Go.Proofs.YthfpakjfdncphaaDoor
/- The reference's number and Decode. -/
namespace Go.Proofs.YthfpakjfdncphaaDoor
open Go Go.RowKit
set_option linter.unusedSimpArgs false
set_option linter.unusedVariables false

theorem or_i64 (m y : Nat) (k : Nat) (hy : y < 2 ^ k) (hm : m * 2 ^ k + y < 9223372036854775808) : bits .or .i64 ((m * 2 ^ k : Nat) : Int) (y : Int) = ((m * 2 ^ k + y : Nat) : Int) := by
  show IntKind.i64.wrap ((BitVec.ofInt 64 ((m * 2 ^ k : Nat) : Int) ||| BitVec.ofInt 64 (y : Int)).toNat : Int) = _
  rw [BitVec.ofInt_natCast, BitVec.ofInt_natCast, BitVec.toNat_or, BitVec.toNat_ofNat, BitVec.toNat_ofNat, Nat.mod_eq_of_lt (by omega), Nat.mod_eq_of_lt (by omega)]
  have e2 : m * 2 ^ k ||| y = m * 2 ^ k + y := by
    have := Nat.shiftLeft_add_eq_or_of_lt (i := k) (b := y) hy m
    rw [Nat.shiftLeft_eq] at this; exact this.symm
  rw [e2, wrap_small _ (by omega) (by omega)]
theorem or4 (z0 z1 z2 z3 : Int) (a0 : 0 ≤ z0) (a0' : z0 ≤ 255) (a1 : 0 ≤ z1) (a1' : z1 ≤ 255) (a2 : 0 ≤ z2) (a2' : z2 ≤ 255) (a3 : 0 ≤ z3) (a3' : z3 ≤ 255) :
    bits .or .i64 (bits .or .i64 (bits .or .i64 (z0 * 16777216) (z1 * 65536)) (z2 * 256)) z3 = z0 * 16777216 + z1 * 65536 + z2 * 256 + z3 := by
  obtain ⟨n0, rfl⟩ := Int.eq_ofNat_of_zero_le a0
  obtain ⟨n1, rfl⟩ := Int.eq_ofNat_of_zero_le a1
  obtain ⟨n2, rfl⟩ := Int.eq_ofNat_of_zero_le a2
  obtain ⟨n3, rfl⟩ := Int.eq_ofNat_of_zero_le a3
  have e1 := or_i64 n0 (n1 * 65536) 24 (by omega) (by omega)
  have e2 := or_i64 (n0 * 256 + n1) (n2 * 256) 16 (by omega) (by omega)
  have e3 := or_i64 (n0 * 65536 + n1 * 256 + n2) n3 8 (by omega) (by omega)
  have f1 : ((n0 : Int) * 16777216) = ((n0 * 2 ^ 24 : Nat) : Int) := by omega
  have f2 : ((n1 : Int) * 65536) = ((n1 * 65536 : Nat) : Int) := by omega
  have f3 : ((n2 : Int) * 256) = ((n2 * 256 : Nat) : Int) := by omega
  have g1 : n0 * 2 ^ 24 + n1 * 65536 = (n0 * 256 + n1) * 2 ^ 16 := by omega
  have g2 : (n0 * 256 + n1) * 2 ^ 16 + n2 * 256 = (n0 * 65536 + n1 * 256 + n2) * 2 ^ 8 := by
    show (n0 * 256 + n1) * 65536 + n2 * 256 = (n0 * 65536 + n1 * 256 + n2) * 256
    clear e1 e2 e3 f1 f2 f3 g1
    rw [Nat.add_mul, Nat.add_mul, Nat.add_mul, Nat.mul_assoc, Nat.mul_assoc, Nat.mul_assoc]
  rw [f1, f2, f3, e1, g1, e2, g2, e3]
  omega
theorem four_of (l : List Int) (h : 4 ≤ l.length) : l.take 4 = [gi l 0, gi l 1, gi l 2, gi l 3] := by
  match l, h with
  | a :: b :: c :: d :: l, _ => rfl
  | [], h => simp at h
  | [_], h => simp at h
  | [_, _], h => simp at h
  | [_, _, _], h => simp at h
theorem cnt_four {xs : List Int} (hb : Byt xs) (at' : Nat) (h : at' + 4 ≤ xs.length) : (cnt (xs.drop at') : Int) = gi xs at' * 16777216 + gi xs (at' + 1) * 65536 + gi xs (at' + 2) * 256 + gi xs (at' + 3) := by
  rw [← (cnt_nm (hb.drop at')).1, nm_plain _ ((hb.drop at').take 4) (by rw [List.length_take]; omega), four_of _ (by rw [List.length_drop]; omega), gi_drop, gi_drop, gi_drop, gi_drop]
  simp only [pv, List.length_cons, List.length_nil, Nat.add_zero]
  omega
/-- A piece of a slice. -/
theorem Sl.mid {w : World} {b o l cap : Nat} {xs : List Int} (h : Sl w (.slice (some ⟨b, o, none⟩) l cap) xs) (n m : Nat) (hn : n + m ≤ l) :
    Sl w (.slice (if cap = n then some ⟨b, o, none⟩ else some ⟨b, o + n, none⟩) m (cap - n)) ((xs.drop n).take m) := by
  have h2 := (h.cut n (by omega)).2
  obtain ⟨ad, cap', hv, hc, h⟩ := h
  simp only [Value.slice.injEq] at hv
  obtain ⟨rfl, rfl, rfl⟩ := hv
  by_cases e : cap = n
  · obtain rfl : m = 0 := by omega
    rw [if_pos e, List.take_zero]
    exact ⟨_, cap - n, rfl, by simp, .inl ⟨rfl, fun e => by cases e⟩⟩
  · rw [if_neg e] at h2 ⊢
    have := (h2.cut m (by omega)).1
    exact this
end Go.Proofs.YthfpakjfdncphaaDoor
/- SameList. -/
namespace Go.Proofs.YthfpakjfdncphaaDoor
open Go Go.RowKit
set_option linter.unusedSimpArgs false
set_option linter.unusedVariables false

theorem LL.drewN {w : World} {v : Value} {xss : List (List Int)} (h : LL w v xss) (n : Nat) : LL (w.drewN n) v xss := h.below (below_drewN (Below.refl _ _) n)
set_option maxHeartbeats 1000000 in
theorem sameList_same (xss : List (List Int)) (v v' : Value) (w : World) (h1 : LL w v xss) (h2 : LL w v' xss) (hn : xss.length ≤ 140737488355328) :
    Calls Tryd.prog 16 #[v, v'] w fun e w' => e = .returned (.bool true) ∧ Below w.heap.size w w' := by
  obtain ⟨ad, cap, rfl, -, hx⟩ := h1
  obtain ⟨ad', cap', rfl, -, hx'⟩ := h2
  have HX : Hid _ := hx
  have HX' : Hid _ := hx'
  clear hx hx'
  go_enter Tryd.func16, Tryd.ntmps16
  go_wp2
  go_loopw [13] (fun i wr => ∃ k q : Nat, k ≤ xss.length ∧ i = .int .i64 (k : Int) ∧ wr = w.drewN q) (fun i _ => xss.length - (intOf i).toNat)
  case atStart => exact ⟨0, 0, Nat.zero_le _, rfl, rfl⟩
  case round =>
    obtain ⟨k, q, hk, rfl, rfl⟩ := hrel
    by_cases hlt : k < xss.length
    · rcases HX.out with ⟨rfl, _⟩ | ⟨b, o, rfl, hlb, hm⟩
      · simp at hlt
      · rcases HX'.out with ⟨rfl, _⟩ | ⟨b', o', rfl, hlb', hm'⟩
        · simp at hlt
        · obtain ⟨u, hc0, hu⟩ := hm k hlt
          obtain ⟨u', hc0', hu'⟩ := hm' k hlt
          have gk : (k : Int) < (xss.length : Int) := by omega
          have s1 : ∀ n, (convert 32 9 u).run Tryd.prog (w.drewN n) = .ok (.string (strOfNums (mi xss k))) (w.drewN n) := fun n => (hu.below (below_drewN (Below.refl _ _) n) (Nat.le_refl _)).str
          have s2 : ∀ n, (convert 32 9 u').run Tryd.prog (w.drewN n) = .ok (.string (strOfNums (mi xss k))) (w.drewN n) := fun n => (hu'.below (below_drewN (Below.refl _ _) n) (Nat.le_refl _)).str
          obtain ⟨S, hS⟩ : ∃ S, strOfNums (mi xss k) = S := ⟨_, rfl⟩
          rw [hS] at s1 s2
          clear hm hm' hu hu' hS
          go_wp2
          go_quiet (fail)
          go_wp2
          exact ⟨⟨k + 1, q + nq, hlt, by go_num, by simp [World.drewN, Nat.add_assoc]⟩, by simp [intOf]; omega⟩
    · go_wp2
      go_ret
      exact ⟨rfl, below_drewN (Below.refl _ _) q⟩
end Go.Proofs.YthfpakjfdncphaaDoor
