/- A list's bytes, and the list of bytes: each undoes the other. -/
import Derived.Test.YtfnmdeekenjlgaaWirK
namespace Go.Proofs.Ytfnmdeekenjlgaa
open Go Go.RowKit
set_option linter.unusedSimpArgs false
set_option linter.unusedVariables false

/-- Members, one behind the other. -/
def fl : List (List Int) → List Int
  | [] => []
  | m :: ms => (be 4 (m.length : Int) ++ m) ++ fl ms
theorem fl_append : ∀ (a b : List (List Int)), fl (a ++ b) = fl a ++ fl b
  | [], b => rfl
  | m :: a, b => by simp only [List.cons_append, fl, fl_append a b, List.append_assoc]
theorem encK_fl (xss : List (List Int)) : ∀ k, k ≤ xss.length → encK xss k = be 4 (xss.length : Int) ++ fl (xss.take k)
  | 0, _ => by simp [encK, fl]
  | k + 1, h => by
    rw [encK, encK_fl xss k (by omega), take_snoc xss k (by omega), fl_append]
    simp [fl]
theorem be_byt4 (n : Int) : Byt (be 4 n) := be_byt 4 n
theorem fl_byt : ∀ {l : List (List Int)}, (∀ m ∈ l, Byt m) → Byt (fl l)
  | [], _ => Byt.nil
  | m :: ms, h => ((be_byt _ _).append (h m (by simp))).append (fl_byt (fun x hx => h x (by simp [hx])))
theorem nm_be4 (n : Nat) (h : n < 4294967296) : nm (be 4 (n : Int)) = (n : Int) := by
  have h4 : 256 ^ 4 = 4294967296 := by decide
  rw [nm_plain _ (be_byt _ _) (by rw [be_length]; omega), pv_be, h4, Nat.mod_eq_of_lt h]
theorem cnt_be (n : Nat) (h : n < 4294967296) (ys : List Int) : cnt (be 4 (n : Int) ++ ys) = n := by
  unfold cnt
  rw [List.take_append_of_le_length (by rw [be_length]; omega), List.take_of_length_le (by rw [be_length]; omega), nm_be4 n h]; omega
theorem drop_be (n : Int) (ys : List Int) : (be 4 n ++ ys).drop 4 = ys := by
  rw [List.drop_append_of_le_length (by rw [be_length]; omega), List.drop_of_length_le (by rw [be_length]; omega)]; rfl
theorem member_of (m ys : List Int) (h : m.length < 4294967296) : hasM ((be 4 (m.length : Int) ++ m) ++ ys) = true ∧ mem1 ((be 4 (m.length : Int) ++ m) ++ ys) = m ∧ rest1 ((be 4 (m.length : Int) ++ m) ++ ys) = ys := by
  have hc : cnt ((be 4 (m.length : Int) ++ m) ++ ys) = m.length := by rw [List.append_assoc]; exact cnt_be _ h _
  refine ⟨decide_eq_true ?_, ?_, ?_⟩
  · rw [hc]; simp only [List.length_append, be_length]; omega
  · unfold mem1; rw [hc, List.append_assoc, drop_be]; simp
  · unfold rest1; rw [hc, ← List.drop_drop, List.append_assoc, drop_be]; simp
/-- What was written is read. -/
theorem dk_enc (xss : List (List Int)) (hL : ∀ i, i < xss.length → (mi xss i).length < 4294967296) : ∀ k, k ≤ xss.length → dk (be 4 (xss.length : Int) ++ fl xss) k = some (xss.take k, fl (xss.drop k))
  | 0, _ => by simp only [dk, drop_be]; rfl
  | k + 1, h => by
    have ih := dk_enc xss hL k (by omega)
    have hd : xss.drop k = mi xss k :: xss.drop (k + 1) := by rw [mi_get (show k < xss.length by omega)]; exact List.drop_eq_getElem_cons (by omega)
    rw [hd, fl] at ih
    obtain ⟨h1, h2, h3⟩ := member_of (mi xss k) (fl (xss.drop (k + 1))) (hL k (by omega))
    rw [dk_yes ih h1, h2, h3, take_snoc xss k (by omega)]
theorem decode_enc (xss : List (List Int)) (hb : big xss = false) : decE (encB xss) = 0 ∧ decL (encB xss) = xss := by
  obtain ⟨h1, h2⟩ := small_of hb
  rw [(encE_ok hb).2]
  have hlen := encK_length xss xss.length
  have e : encK xss xss.length = be 4 (xss.length : Int) ++ fl xss := by rw [encK_fl xss _ (Nat.le_refl _), List.take_of_length_le (Nat.le_refl _)]
  have hL : ∀ i, i < xss.length → (mi xss i).length < 4294967296 := fun i hi => by
    have h := sz_mono xss xss.length (show i + 1 ≤ xss.length by omega)
    simp only [sz] at h; omega
  have h4 : 4 ≤ sz xss xss.length := sz_mono xss _ (Nat.zero_le _)
  rw [e] at hlen ⊢
  have hc := cnt_be xss.length (by omega) (fl xss)
  have hd := dk_enc xss hL xss.length (Nat.le_refl _)
  rw [List.drop_of_length_le (Nat.le_refl _), List.take_of_length_le (Nat.le_refl _)] at hd
  exact dec_ok (by omega) (by rw [hc, hlen]; omega) (by rw [hc]; exact hd) rfl
/-- Bytes that tell a number are that number's. -/
theorem pow_cast (s : Nat) : (256 : Int) ^ s = ((256 ^ s : Nat) : Int) := by rw [Int.natCast_pow]; rfl
theorem dg_add (x n : Nat) (s i : Nat) (h : i < s) : dg ((x * 256 ^ s + n : Nat) : Int) i = dg (n : Int) i := by
  unfold dg
  rw [Int.pow_mul, show (2 : Int) ^ 8 = ((256 : Nat) : Int) from rfl, ← Int.natCast_pow, ← Int.natCast_ediv, ← Int.natCast_ediv]
  have e : x * 256 ^ s + n = n + 256 ^ i * (x * 256 ^ (s - i - 1) * 256) := by
    have : 256 ^ s = 256 ^ i * (256 ^ (s - i - 1) * 256) := by rw [← Nat.pow_succ, ← Nat.pow_add]; congr 1; omega
    rw [this, Nat.add_comm, Nat.mul_left_comm, Nat.mul_assoc]
  rw [e, Nat.add_mul_div_left _ _ (Nat.pow_pos (by decide))]
  omega
theorem be_pv : ∀ xs : List Int, Byt xs → be xs.length (pv xs) = xs
  | [], _ => rfl
  | x :: xs, h => by
    have hx := h x (by simp)
    have hxs : Byt xs := fun z hz => h z (by simp [hz])
    have h0 := pv_nonneg xs hxs
    have h1 := pv_lt xs hxs
    obtain ⟨n, hn⟩ := Int.eq_ofNat_of_zero_le h0
    obtain ⟨y, rfl⟩ := Int.eq_ofNat_of_zero_le hx.1
    have ih := be_pv xs hxs
    have hv : pv ((y : Int) :: xs) = ((y * 256 ^ xs.length + n : Nat) : Int) := by
      simp only [pv]; rw [hn, pow_cast]; simp only [Int.natCast_add, Int.natCast_mul]
    rw [List.length_cons, be_succ, hv]
    have hlt : n < 256 ^ xs.length := by rw [hn, pow_cast] at h1; omega
    congr 1
    · unfold dg
      rw [Int.pow_mul, show (2 : Int) ^ 8 = ((256 : Nat) : Int) from rfl, ← Int.natCast_pow, ← Int.natCast_ediv, Nat.mul_comm, Nat.mul_add_div (Nat.pow_pos (by decide)), Nat.div_eq_of_lt hlt]
      omega
    · rw [hn] at ih
      have hcg : be xs.length ((y * 256 ^ xs.length + n : Nat) : Int) = be xs.length (n : Int) := by
        unfold be
        apply List.map_congr_left
        intro t ht
        exact dg_add y n xs.length _ (by have := List.mem_range.1 ht; omega)
      rw [hcg]; exact ih
theorem be_cnt {xs : List Int} (hb : Byt xs) (h : 4 ≤ xs.length) : be 4 (cnt xs : Int) = xs.take 4 := by
  have hl : (xs.take 4).length = 4 := by rw [List.length_take]; omega
  have e := be_pv (xs.take 4) (hb.take 4)
  rw [hl] at e
  rw [← (cnt_nm hb).1, nm_plain _ (hb.take 4) (by omega), e]
theorem split_of {r : List Int} (hb : Byt r) (hm : hasM r = true) : r = (be 4 ((mem1 r).length : Int) ++ mem1 r) ++ rest1 r := by
  obtain ⟨h4, hc⟩ := of_decide_eq_true hm
  have hl : (mem1 r).length = cnt r := by unfold mem1; rw [List.length_take, List.length_drop]; omega
  rw [hl, be_cnt hb h4]
  unfold mem1 rest1
  rw [List.append_assoc, ← List.drop_drop, List.take_append_drop, List.take_append_drop]
/-- What is read was so written. -/
theorem dk_back {xs : List Int} (hb : Byt xs) (h4 : 4 ≤ xs.length) : ∀ {k : Nat} {l : List (List Int)} {r : List Int}, dk xs k = some (l, r) → xs = (be 4 (cnt xs : Int) ++ fl l) ++ r
  | 0, l, r, h => by
    simp only [dk, Option.some.injEq, Prod.mk.injEq] at h
    obtain ⟨rfl, rfl⟩ := h
    rw [be_cnt hb h4, fl, List.append_nil, List.take_append_drop]
  | k + 1, l, r, h => by
    simp only [dk] at h
    cases hd : dk xs k with
    | none => rw [hd] at h; cases h
    | some p =>
      obtain ⟨l', r'⟩ := p
      rw [hd] at h
      have ih := dk_back hb h4 hd
      have hi := dk_inv hb hd
      simp only [Option.bind_some] at h
      split at h
      · rename_i hm
        simp only [Option.some.injEq, Prod.mk.injEq] at h
        obtain ⟨rfl, rfl⟩ := h
        have hs := split_of hi.2.1 hm
        rw [fl_append]
        simp only [fl, List.append_nil]
        rw [List.append_assoc, List.append_assoc, ← hs, ← List.append_assoc]
        exact ih
      · cases h
theorem dec_cases {xs : List Int} (hb : Byt xs) : ((decE xs = 2 ∨ decE xs = 6) ∧ decL xs = []) ∨ (decE xs = 0 ∧ big (decL xs) = false ∧ encB (decL xs) = xs) := by
  by_cases h1 : 1048576 < xs.length
  · exact .inl ⟨.inr (dec_large h1).1, (dec_large h1).2⟩
  by_cases h2 : xs.length < 4 ∨ 65536 < cnt xs
  · exact .inl ⟨.inl (dec_form h1 h2).1, (dec_form h1 h2).2⟩
  cases hd : dk xs (cnt xs) with
  | none => exact .inl ⟨.inl (dec_none h1 h2 hd).1, (dec_none h1 h2 hd).2⟩
  | some p =>
    obtain ⟨l, r⟩ := p
    obtain ⟨e1, e2, e3, e4⟩ := dk_inv hb hd
    by_cases hr : r.length = 0
    · obtain ⟨f1, f2⟩ := dec_ok h1 h2 hd hr
      refine .inr ⟨f1, ?_⟩
      rw [f2]
      obtain rfl := List.length_eq_zero_iff.1 hr
      have hx := dk_back hb (by omega) hd
      rw [List.append_nil, ← e1] at hx
      have hk : encK l l.length = xs := by rw [encK_fl l _ (Nat.le_refl _), List.take_of_length_le (Nat.le_refl _)]; exact hx.symm
      have hlen := encK_length l l.length
      rw [hk] at hlen
      have hbig : big l = false := decide_eq_false (by omega)
      exact ⟨hbig, by rw [(encE_ok hbig).2]; exact hk⟩
    · exact .inl ⟨.inl (dec_rest h1 h2 hd hr).1, (dec_rest h1 h2 hd hr).2⟩
end Go.Proofs.Ytfnmdeekenjlgaa
