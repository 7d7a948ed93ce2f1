/- Roots as bytes and back: mathematics. -/
import Derived.Test.YtfnmdeekenjlgaaWrtI
import Derived.Test.YtfnmdeekenjlgaaWirN
import Derived.Lib.Strings
namespace Go.Proofs.Ytfnmdeekenjlgaa
open Go Go.RowKit
set_option linter.unusedSimpArgs false
set_option linter.unusedVariables false
set_option maxRecDepth 100000

theorem be_nm8 {xs : List Int} (hb : Byt xs) (h : xs.length = 8) : be 8 (nm xs) = xs := by
  have e := be_pv xs hb
  rw [h] at e
  rw [nm_plain xs hb (by omega), e]
theorem nm8_range {xs : List Int} (hb : Byt xs) (h : xs.length = 8) : 0 ≤ nm xs ∧ nm xs < 18446744073709551616 := by
  rw [nm_plain xs hb (by omega)]
  have h1 := pv_nonneg xs hb
  have h2 := pv_lt xs hb
  rw [h] at h2
  exact ⟨h1, by have : (256 : Int) ^ 8 = 18446744073709551616 := by decide
                omega⟩
theorem rootS_eq : strOfNums [114, 111, 111, 116] = rootS := by rfl
theorem signS_eq : strOfNums [115, 105, 103, 110, 101, 100] = signS := by rfl
/-- The bytes of a word. -/
theorem nums_of_str {xs : List Int} (hb : Byt xs) {ys : List Int} (hy : Byt ys) (h : (strOfNums xs).toList = (strOfNums ys).toList) : xs = ys := by
  have e1 : ∀ zs : List Int, (strOfNums zs).toList = zs.map fun n => UInt8.ofNat n.toNat := fun zs => by
    rw [ByteArray.toList_eq]; rfl
  rw [e1, e1] at h
  have key : ∀ (a b : List Int), Byt a → Byt b → (a.map fun n => UInt8.ofNat n.toNat) = (b.map fun n => UInt8.ofNat n.toNat) → a = b := by
    intro a
    induction a with
    | nil => intro b _ _ h; cases b with | nil => rfl | cons y b => simp at h
    | cons x a ih =>
      intro b ha hb h
      cases b with
      | nil => simp at h
      | cons y b =>
        simp only [List.map_cons, List.cons.injEq] at h
        have hx := ha x (by simp)
        have hy := hb y (by simp)
        have e : x = y := by
          have := congrArg UInt8.toNat h.1
          simp only [UInt8.toNat_ofNat'] at this
          omega
        rw [e, ih b (fun z hz => ha z (by simp [hz])) (fun z hz => hb z (by simp [hz])) h.2]
  exact key xs ys hb hy h
theorem sz_list {R : Rt} (h : R.Ok) : sz R.list R.list.length = 156 := by
  simp [Rt.list, sz, mi, be_length, h.pr.1, h.hs.1, h.lk.1]
theorem big_list {R : Rt} (h : R.Ok) : big R.list = false := by
  unfold big
  rw [sz_list h]; simp [Rt.list]
theorem len_list {R : Rt} (h : R.Ok) : (encB R.list).length = 156 := by
  rw [(encE_ok (big_list h)).2, encK_length, sz_list h]
theorem big_all {R : Rt} (h : R.Ok) : big R.all = false := by
  have : sz R.all R.all.length = 242 := by simp [Rt.all, sz, mi, len_list h, h.sg.1]
  unfold big
  rw [this]; simp [Rt.all]
theorem u_of {R : Rt} (h : R.Ok) : isU (encB R.list) = true ∧ uRt (encB R.list) = { R with sg := List.replicate 64 0 } := by
  obtain ⟨e1, e2⟩ := decode_enc R.list (big_list h)
  have hF : hasF (encB R.list) rootS 6 = true := by
    unfold hasF; rw [e1, e2, show mi R.list 0 = [114, 111, 111, 116] from rfl, rootS_eq, show R.list.length = 1 + 6 from rfl]; simp
  have n1 : ∀ z : Int, 0 ≤ z ∧ z < 18446744073709551616 → rnErr (be 8 z) = 0 ∧ rnVal (be 8 z) = z := fun z hz => by
    unfold rnErr rnVal
    rw [if_pos (be_length 8 z), if_pos (be_length 8 z), nm_be8 z hz.1 hz.2]; exact ⟨rfl, rfl⟩
  have m1 : mi R.list 1 = be 8 R.ep := rfl
  have m2 : mi R.list 2 = be 8 R.kd := rfl
  have m3 : mi R.list 3 = be 8 R.gn := rfl
  have m4 : mi R.list 4 = R.pr := rfl
  have m5 : mi R.list 5 = R.hs := rfl
  have m6 : mi R.list 6 = R.lk := rfl
  have h32 : not32 (R.list.drop 4) = false := not32_no (fun i hi => by
    have hi' : i < 3 := hi
    rcases (show i = 0 ∨ i = 1 ∨ i = 2 by omega) with rfl | rfl | rfl
    · exact h.pr.1
    · exact h.hs.1
    · exact h.lk.1)
  constructor
  · unfold isU
    rw [hF, e2, m1, m2, m3, (n1 _ h.ep).1, (n1 _ h.kd).1, (n1 _ h.gn).1, h32]; rfl
  · unfold uRt
    rw [e2, m1, m2, m3, m4, m5, m6, (n1 _ h.ep).2, (n1 _ h.kd).2, (n1 _ h.gn).2]
/-- A root that was encoded is decoded. -/
theorem r_of {R : Rt} (h : R.Ok) : isR (encB R.all) = true ∧ dRt (encB R.all) = R := by
  obtain ⟨e1, e2⟩ := decode_enc R.all (big_all h)
  obtain ⟨u1, u2⟩ := u_of h
  have hF : hasF (encB R.all) signS 2 = true := by
    unfold hasF
    rw [e1, e2, show mi R.all 0 = [115, 105, 103, 110, 101, 100] from rfl, signS_eq, show R.all.length = 1 + 2 from rfl]; simp
  have m1 : mi R.all 1 = encB R.list := rfl
  have m2 : mi R.all 2 = R.sg := rfl
  constructor
  · unfold isR
    rw [hF, e2, m1, m2, u1, h.sg.1]; rfl
  · unfold dRt
    rw [e2, m1, m2, u2]
theorem mi_get' {l : List (List Int)} {n : Nat} (h : l.length = n) : l = (List.range n).map (mi l) := by
  subst h
  apply List.ext_getElem?
  intro j
  by_cases hj : j < l.length
  · simp [hj, mi]
  · rw [List.getElem?_eq_none (by omega), List.getElem?_eq_none (by simp; omega)]
theorem rn8 {xs : List Int} (h : rnErr xs = 0) : xs.length = 8 ∧ rnVal xs = nm xs := by
  unfold rnErr at h
  unfold rnVal
  split at h
  · rename_i e; exact ⟨e, by rw [if_pos e]⟩
  · cases h
theorem byt_root : Byt [114, 111, 111, 116] := fun z hz => by simp at hz; omega
theorem byt_sign : Byt [115, 105, 103, 110, 101, 100] := fun z hz => by simp at hz; omega
theorem u_back {ys : List Int} (hb : Byt ys) (h : isU ys = true) : encB (uRt ys).list = ys ∧ (∀ sg : List Int, sg.length = 64 → Byt sg → Rt.Ok { uRt ys with sg := sg }) := by
  obtain ⟨l4, l5, l6⟩ := isU_lens h
  unfold isU at h
  simp only [Bool.and_eq_true, decide_eq_true_eq, Bool.not_eq_true'] at h
  obtain ⟨hF, r1, r2, r3, -⟩ := h
  unfold hasF at hF
  simp only [Bool.and_eq_true, decide_eq_true_eq] at hF
  obtain ⟨hE, hL, hw⟩ := hF
  have hbm := decL_mi hb
  obtain ⟨a1, b1⟩ := rn8 r1
  obtain ⟨a2, b2⟩ := rn8 r2
  obtain ⟨a3, b3⟩ := rn8 r3
  have hm0 : mi (decL ys) 0 = [114, 111, 111, 116] := nums_of_str (hbm 0).1 byt_root (by
    rw [eq_of_beq hw, rootS_eq])
  have hlist : (uRt ys).list = decL ys := by
    rw [mi_get' hL]
    show (uRt ys).list = [mi (decL ys) 0, mi (decL ys) 1, mi (decL ys) 2, mi (decL ys) 3, mi (decL ys) 4, mi (decL ys) 5, mi (decL ys) 6]
    unfold uRt Rt.list
    simp only
    rw [b1, b2, b3, be_nm8 (hbm 1).1 a1, be_nm8 (hbm 2).1 a2, be_nm8 (hbm 3).1 a3, hm0]
  rcases dec_cases hb with ⟨h0, _⟩ | ⟨_, _, hback⟩
  · rw [hE] at h0; omega
  · refine ⟨by rw [hlist]; exact hback, fun sg hsg hsb => ⟨?_, ?_, ?_, ⟨l4, (hbm 4).1⟩, ⟨l5, (hbm 5).1⟩, ⟨l6, (hbm 6).1⟩, ⟨hsg, hsb⟩⟩⟩
    · show 0 ≤ rnVal _ ∧ rnVal _ < _; rw [b1]; exact nm8_range (hbm 1).1 a1
    · show 0 ≤ rnVal _ ∧ rnVal _ < _; rw [b2]; exact nm8_range (hbm 2).1 a2
    · show 0 ≤ rnVal _ ∧ rnVal _ < _; rw [b3]; exact nm8_range (hbm 3).1 a3
/-- What is decoded encodes to what came in. -/
theorem r_back {xs : List Int} (hb : Byt xs) (h : isR xs = true) : encB (dRt xs).all = xs ∧ (dRt xs).Ok := by
  unfold isR at h
  simp only [Bool.and_eq_true, decide_eq_true_eq] at h
  obtain ⟨hF, h64, hU⟩ := h
  unfold hasF at hF
  simp only [Bool.and_eq_true, decide_eq_true_eq] at hF
  obtain ⟨hE, hL, hw⟩ := hF
  have hbm := decL_mi hb
  obtain ⟨hub, huk⟩ := u_back (hbm 1).1 hU
  have hm0 : mi (decL xs) 0 = [115, 105, 103, 110, 101, 100] := nums_of_str (hbm 0).1 byt_sign (by
    rw [eq_of_beq hw, signS_eq])
  have hall : (dRt xs).all = decL xs := by
    rw [mi_get' hL]
    show (dRt xs).all = [mi (decL xs) 0, mi (decL xs) 1, mi (decL xs) 2]
    have e1 : (dRt xs).list = (uRt (mi (decL xs) 1)).list := rfl
    unfold Rt.all
    rw [e1, hub, hm0]; rfl
  rcases dec_cases hb with ⟨h0, _⟩ | ⟨_, _, hback⟩
  · rw [hE] at h0; omega
  · exact ⟨by rw [hall]; exact hback, huk _ h64 (hbm 2).1⟩
end Go.Proofs.Ytfnmdeekenjlgaa
