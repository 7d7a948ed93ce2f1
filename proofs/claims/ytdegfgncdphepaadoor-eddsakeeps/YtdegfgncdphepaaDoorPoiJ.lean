/- What package point's calls answer, in the curve's group. -/
import Derived.Test.YtdegfgncdphepaaDoorFieV
import Derived.Test.YtdegfgncdphepaaDoorPoiN
import Derived.Test.YtdegfgncdphepaaDoorPoiI
import Derived.Test.YtdegfgncdphepaaDoorHshA
namespace Go.Proofs.YtdegfgncdphepaaDoor
open Go
set_option linter.unusedVariables false
def cP (p : P4) : E4 KK := ⟨cK p.x, cK p.y, cK p.z, cK p.t⟩
theorem cK_fad (a b : Nat) : cK (fad a b) = cK a + cK b := cK_add a b
theorem cK_fsb (a b : Nat) : cK (fsb a b) = cK a - cK b := cK_sub a b
theorem cK_fml (a b : Nat) : cK (fml a b) = cK a * cK b := cK_mul a b
theorem cK_fiv (a : Nat) : cK (fiv a) = invK (cK a) := (invK_cK a).symm
theorem cP_quo (x xu y yu : Nat) : cP (quoN x xu y yu) = quoE (cK x) (cK xu) (cK y) (cK yu) := by
  unfold cP quoN quoE
  simp only [cK_fml]
theorem cP_sum (a b : P4) : cP (sumN a b) = sumE DK (cP a) (cP b) := by
  unfold sumN
  simp only [cP_quo]
  unfold sumE cP
  simp only [cK_fml, cK_fad, cK_fsb]
  rfl
theorem cP_dbl (a : P4) : cP (dblN a) = dblE (cP a) := by
  unfold dblN
  simp only [cP_quo]
  unfold dblE cP
  simp only [cK_fml, cK_fad, cK_fsb]
theorem cP_mir (a : P4) : cP (mirN a) = mirE (cP a) := by
  unfold mirN mirE cP
  simp only [cK_fsb, cK_zero]
theorem cP_neu : cP neuN = neuE := by
  unfold neuN neuE cP
  simp only [cK_zero, cK_one]
theorem cP_at (x y : Nat) : cP (atN x y) = atE (cK x) (cK y) := by
  unfold atN atE cP
  simp only [cK_fml, cK_one]
abbrev PT : Type := Pt DK
abbrev padd (p q : PT) : PT := p.add FK q
abbrev pmul (n : Nat) (p : PT) : PT := p.smul FK n
theorem rep_six {a : P4} {p : PT} (h : Rep (cP a) p) : Rep (cP (sixN a)) (pmul 16 p) := by
  unfold sixN
  rw [cP_dbl, cP_dbl, cP_dbl, cP_dbl]
  show Rep _ (Pt.smul FK 16 p)
  rw [Pt.dbl16]
  exact rep_dbl FK (rep_dbl FK (rep_dbl FK (rep_dbl FK h)))
theorem rep_mu {a : P4} {p : PT} (h : Rep (cP a) p) : ∀ i, Rep (cP (muN a i)) (pmul i p)
  | 0 => by
    show Rep (cP neuN) (Pt.zero DK)
    rw [cP_neu]; exact rep_neu FK
  | i + 1 => by
    show Rep (cP (sumN (muN a i) a)) ((pmul i p).add FK p)
    rw [cP_sum]; exact rep_sum FK (rep_mu h i) h
theorem rep_step {t q : P4} {p : PT} {m d : Nat} (ht : Rep (cP t) (pmul m p)) (hq : Rep (cP q) (pmul d p)) : Rep (cP (stepN t q)) (pmul (16 * m + d) p) := by
  unfold stepN
  rw [cP_sum]
  have := rep_sum FK (rep_six ht) hq
  show Rep _ (Pt.smul FK (16 * m + d) p)
  rw [Pt.smul_add, Pt.smul_mul]
  exact this
theorem rep_tm {a : P4} {p : PT} (h : Rep (cP a) p) (n : Nat) (hn : n < RN) : ∀ j, j ≤ 32 → Rep (cP (tmR a n j)) (pmul (n / 256 ^ (32 - j)) p)
  | 0, _ => by
    have : n / 256 ^ (32 - 0) = 0 := Nat.div_eq_of_lt (by rw [Nat.sub_zero]; exact Nat.lt_of_lt_of_le hn (by decide))
    rw [this]
    exact rep_mu h 0
  | j + 1, hj => by
    have ih := rep_tm h n hn j (by omega)
    have e : n / 256 ^ (32 - (j + 1)) = 16 * (16 * (n / 256 ^ (32 - j)) + n / 256 ^ (31 - j) % 256 / 16) + n / 256 ^ (31 - j) % 256 % 16 := by
      have e1 : 32 - j = (31 - j) + 1 := by omega
      have e2 : 32 - (j + 1) = 31 - j := by omega
      rw [e1, e2, Nat.pow_succ, ← Nat.div_div_eq_div_mul]
      generalize n / 256 ^ (31 - j) = z
      omega
    rw [e]
    exact rep_step (rep_step ih (rep_mu h _)) (rep_mu h _)
theorem rep_times {a : P4} {p : PT} (h : Rep (cP a) p) (n : Nat) (hn : n < RN) : Rep (cP (timesN n a)) (pmul n p) := by
  have := rep_tm h n hn 32 (Nat.le_refl _)
  rw [Nat.sub_self, Nat.pow_zero, Nat.div_one] at this
  exact this
/-- The bytes of a point, as a number. -/
def enc (p : PT) : Nat := p.y.val + p.x.val % 2 * TT
theorem val_of {a : Nat} {k : KK} (h : a < pp) (e : cK a = k) : a = k.val := by
  rw [← e, cK_val, Nat.mod_eq_of_lt h]
theorem wr_enc {a : P4} {p : PT} (h : Rep (cP a) p) : wrN a = enc p := by
  obtain ⟨h1, h2, h3, _⟩ := h
  have hz : cK a.z ≠ 0 := h1
  have iv := FK.inv _ hz
  have hx : cK a.x = p.x * cK a.z := h2
  have hy : cK a.y = p.y * cK a.z := h3
  have kx : cK (wx a) = p.x := by
    unfold wx; rw [cK_fml, cK_fiv, hx]
    have := kmul_assoc p.x (cK a.z) (invK (cK a.z))
    rw [this, iv, kmul_one]
  have ky : cK (wy a) = p.y := by
    unfold wy; rw [cK_fml, cK_fiv, hy]
    have := kmul_assoc p.y (cK a.z) (invK (cK a.z))
    rw [this, iv, kmul_one]
  unfold wrN enc
  rw [← val_of (fml_lt _ _) kx, ← val_of (fml_lt _ _) ky]
  rfl
section
variable {d : KK} {inv : KK → KK}
theorem den_y (F : Fld d inv) (y : KK) : 1 + d * (y * y) ≠ 0 := fun h => by
  obtain ⟨i, hi⟩ := F.root
  have h0 := F.nsq i y (by grind)
  apply F.one
  grind
theorem sq_of_on {x y : KK} (h : On d x y) : x * x * (1 + d * (y * y)) = y * y - 1 := by
  unfold On at h; grind
theorem on_of_sq {x y : KK} (h : x * x * (1 + d * (y * y)) = y * y - 1) : On d x y := by
  unfold On; grind
theorem on_neg {x y : KK} (h : On d x y) : On d (0 - x) y := by unfold On at *; grind
theorem sx_eq (F : Fld d inv) {x y : KK} (h : On d x y) : (y * y - 1) * inv (1 + d * (y * y)) = x * x := by
  have h1 := sq_of_on h
  have h2 := F.inv _ (den_y F y)
  generalize inv (1 + d * (y * y)) = z at *
  rw [← h1]
  grind
theorem on_of_root (F : Fld d inv) {x y : KK} (h : x * x = (y * y - 1) * inv (1 + d * (y * y))) : On d x y := by
  have h2 := F.inv _ (den_y F y)
  generalize inv (1 + d * (y * y)) = z at *
  apply on_of_sq
  rw [h]
  grind
theorem two_sq (F : Fld d inv) {x z : KK} (h : x * x = z * z) : x = z ∨ x = 0 - z := by
  have : (x - z) * (x + z) = 0 := by grind
  rcases F.nz _ _ this with h | h
  · left; grind
  · right; grind
end
theorem y_of_enc (p : PT) : enc p % TT = p.y.val := by
  unfold enc
  rw [Nat.add_mul_mod_self_right]
  exact Nat.mod_eq_of_lt (Nat.lt_trans p.y.isLt pp_lt_TT)
theorem odd_of_enc (p : PT) : enc p / TT = p.x.val % 2 := by
  unfold enc
  rw [Nat.add_mul_div_right _ _ (by decide), Nat.div_eq_of_lt (Nat.lt_trans p.y.isLt pp_lt_TT), Nat.zero_add]
theorem enc_lt (p : PT) : enc p < RN := by
  unfold enc
  have h1 : p.y.val < TT := Nat.lt_trans p.y.isLt pp_lt_TT
  have h3 : RN = TT + TT := by decide
  rcases (by omega : p.x.val % 2 = 0 ∨ p.x.val % 2 = 1) with h | h <;> rw [h] <;> omega
theorem neg_val (k : KK) (h : k ≠ 0) : (0 - k).val = pp - k.val := by
  have hk : k.val ≠ 0 := fun e => h (Fin.ext e)
  rw [Fin.sub_def]
  show (pp - k.val + 0) % pp = _
  rw [Nat.add_zero]
  have := k.isLt
  exact Nat.mod_eq_of_lt (by omega)
theorem pp_odd : pp % 2 = 1 := by decide
theorem enc_inj {p q : PT} (h : enc p = enc q) : p = q := by
  have hy : p.y = q.y := Fin.ext (by rw [← y_of_enc, ← y_of_enc, h])
  have ho : p.x.val % 2 = q.x.val % 2 := by rw [← odd_of_enc, ← odd_of_enc, h]
  have h1 := sx_eq FK p.on
  have h2 := sx_eq FK q.on
  rw [hy, h2] at h1
  rcases two_sq FK h1.symm with e | e
  · exact Pt.ext' e hy
  · by_cases h0 : q.x = 0
    · refine Pt.ext' ?_ hy
      rw [e, h0]; rfl
    · exfalso
      have := neg_val q.x h0
      rw [e, this] at ho
      have hl := q.x.isLt
      have := pp_odd
      omega
theorem cK_sx (y : Nat) : cK (sxN y) = (cK y * cK y - 1) * invK (1 + DK * (cK y * cK y)) := by
  unfold sxN
  rw [cK_fml, cK_fsb, cK_fml, cK_fiv, cK_fad, cK_fml, cK_fml, cK_one]
  rfl
theorem sqe_zero {s : Nat} : sqe s = 0 ↔ rt s * rt s % pp = s % pp := by
  unfold sqe
  split
  · rename_i h; exact ⟨fun _ => h, fun _ => rfl⟩
  · rename_i h; exact ⟨fun e => absurd e (by decide), fun e => absurd e h⟩
theorem rdOk_iff (n : Nat) : rdOk n = true ↔ n % TT < pp ∧ sqe (sxN (n % TT)) = 0 ∧ ¬ (TT ≤ n ∧ rdRt n = 0) := by
  unfold rdOk rdOdd
  simp only [Bool.and_eq_true, decide_eq_true_eq, Bool.not_eq_true', Bool.and_eq_false_iff, decide_eq_false_iff_not]
  constructor
  · rintro ⟨h1, h2, h3⟩
    exact ⟨h1, h2, fun ⟨a, b⟩ => by rcases h3 with h | h; exact h a; exact h b⟩
  · rintro ⟨h1, h2, h3⟩
    refine ⟨h1, h2, ?_⟩
    by_cases ht : TT ≤ n
    · exact .inr fun e => h3 ⟨ht, e⟩
    · exact .inl ht
/-- What is read is a point with those bytes. -/
theorem rd_point {n : Nat} (hn : n < RN) (h : rdOk n = true) : ∃ p : PT, enc p = n ∧ Rep (cP (rdP n)) p := by
  obtain ⟨h1, h2, h3⟩ := (rdOk_iff n).1 h
  have hs := sqe_zero.1 h2
  have hr : rdRt n = ev (rt (sxN (n % TT))) := by
    unfold rdRt sqv; rw [if_pos hs]
  have lt := rt_lt (sxN (n % TT))
  have hr1 : rdRt n < pp := by rw [hr]; exact ev_lt _ lt
  have hr2 : rdRt n % 2 = 0 := by rw [hr]; exact ev_even _ lt
  have hr3 : rdRt n * rdRt n % pp = sxN (n % TT) % pp := by rw [hr, ev_sq _ lt, hs]
  have hK : cK (rdRt n) * cK (rdRt n) = (cK (n % TT) * cK (n % TT) - 1) * invK (1 + DK * (cK (n % TT) * cK (n % TT))) := by
    rw [← cK_sx, ← cK_mul, hr3, cK_mod]
  have on0 := on_of_root FK hK
  have onx : On DK (cK (rdX n)) (cK (n % TT)) := by
    unfold rdX
    split
    · rw [cK_fsb, cK_zero]; exact on_neg on0
    · exact on0
  refine ⟨⟨cK (rdX n), cK (n % TT), onx⟩, ?_, ?_⟩
  · unfold enc
    simp only
    have hxl : rdX n < pp := by
      unfold rdX
      split
      · exact fsb_lt _ _
      · exact hr1
    rw [cK_val, cK_val, Nat.mod_eq_of_lt h1, Nat.mod_eq_of_lt hxl]
    have h4 : RN = TT + TT := by decide
    by_cases ht : TT ≤ n
    · have hz : ¬ rdRt n = 0 := fun e => h3 ⟨ht, e⟩
      have e1 : rdX n = pp - rdRt n := by
        unfold rdX rdOdd
        rw [decide_eq_true ht, if_pos rfl]
        unfold fsb
        rw [Nat.zero_add, Nat.mod_eq_of_lt hr1, Nat.mod_eq_of_lt (by omega)]
      have := pp_odd
      have e2 : rdX n % 2 = 1 := by rw [e1]; omega
      rw [e2, Nat.one_mul]
      have : n % TT = n - TT := by rw [Nat.mod_eq_sub_mod ht, Nat.mod_eq_of_lt (by omega)]
      omega
    · have e1 : rdX n = rdRt n := by
        unfold rdX rdOdd
        rw [decide_eq_false ht, if_neg Bool.false_ne_true]
      rw [e1, hr2, Nat.zero_mul, Nat.add_zero]
      exact Nat.mod_eq_of_lt (by omega)
  · unfold rdP
    rw [h, if_pos rfl, cP_at]
    exact rep_at FK (⟨cK (rdX n), cK (n % TT), onx⟩ : PT)
/-- A point's bytes are read. -/
theorem rd_enc (p : PT) : rdOk (enc p) = true := by
  have hy := y_of_enc p
  have ky : cK (enc p % TT) = p.y := by rw [hy]; exact cK_of _
  have ks : cK (sxN (enc p % TT)) = p.x * p.x := by rw [cK_sx, ky]; exact sx_eq FK p.on
  have hs : sxN (enc p % TT) = p.x.val * p.x.val % pp := by
    have := val_of (fml_lt _ _) ks
    rw [Fin.val_mul] at this
    exact this
  have hr := root_sq p.x.val _ hs
  rw [rdOk_iff]
  refine ⟨by rw [hy]; exact p.y.isLt, sqe_zero.2 hr, ?_⟩
  rintro ⟨ht, hz⟩
  have hodd : p.x.val % 2 = 1 := by
    rw [← odd_of_enc]
    have h4 : RN = TT * 2 := by decide
    have hl := enc_lt p
    have h1 : enc p / TT < 2 := by rw [Nat.div_lt_iff_lt_mul (by decide)]; omega
    have h2 : 1 ≤ enc p / TT := by rw [Nat.le_div_iff_mul_le (by decide)]; omega
    omega
  have hz' : ev (rt (sxN (enc p % TT))) = 0 := by
    unfold rdRt sqv at hz
    rw [if_pos hr] at hz
    exact hz
  have e := ev_sq _ (rt_lt (sxN (enc p % TT)))
  rw [hz', hr, Nat.mul_zero, Nat.zero_mod] at e
  have k0 : p.x * p.x = 0 := by rw [← ks]; exact cK_eq_zero.2 e.symm
  have : p.x = 0 := by
    rcases FK.nz _ _ k0 with h | h <;> exact h
  rw [this] at hodd
  exact absurd hodd (by decide)
theorem rd_rep (p : PT) : Rep (cP (rdP (enc p))) p := by
  obtain ⟨q, h1, h2⟩ := rd_point (enc_lt p) (rd_enc p)
  rw [← enc_inj h1]; rw [enc_inj h1] at h2 ⊢; exact h2
/-- The generator. -/
def BP : PT := ⟨cK GX, cK GY, by unfold On DK; decide +kernel⟩
theorem rep_gen : Rep (cP genN) BP := by
  unfold genN
  rw [cP_at]
  exact rep_at FK BP
theorem enc_BP : enc BP = GY := by decide +kernel
theorem enc_zero : enc (Pt.zero DK) = 1 := by decide +kernel
theorem add_enc (p q : PT) : addN (enc p) (enc q) = enc (padd p q) ∧ addE (enc p) (enc q) = 0 := by
  unfold addN addE
  rw [rd_enc, rd_enc, Bool.true_and, if_pos rfl, if_pos rfl]
  refine ⟨wr_enc ?_, rfl⟩
  rw [cP_sum]
  exact rep_sum FK (rd_rep p) (rd_rep q)
theorem neg_enc (p : PT) : negN (enc p) = enc p.neg := by
  unfold negN
  rw [rd_enc, if_pos rfl]
  refine wr_enc ?_
  rw [cP_mir]
  exact rep_mir (rd_rep p)
theorem mul_enc (n : Nat) (hn : n < RN) (p : PT) : pmlN n (enc p) = enc (pmul n p) := by
  unfold pmlN
  rw [rd_enc, if_pos rfl]
  exact wr_enc (rep_times (rd_rep p) n hn)
theorem bas_enc (n : Nat) (hn : n < RN) : basN n = enc (pmul n BP) := wr_enc (rep_times rep_gen n hn)
theorem clr_enc (p : PT) : clrN (enc p) = enc (pmul 8 p) := by
  unfold clrN
  rw [rd_enc, if_pos rfl]
  refine wr_enc ?_
  rw [cP_dbl, cP_dbl, cP_dbl]
  show Rep _ (Pt.smul FK 8 p)
  rw [Pt.dbl8]
  exact rep_dbl FK (rep_dbl FK (rep_dbl FK (rd_rep p)))
theorem rdE_enc (p : PT) : rdE (enc p) = 0 := rdE_ok (rd_enc p)
end Go.Proofs.YtdegfgncdphepaaDoor
/- The generator taken L times is the neutral point. -/
namespace Go.Proofs.YtdegfgncdphepaaDoor
open Go
set_option linter.unusedVariables false
def LN : Nat := 7237005577332262213973186563042994240857116359379907606001950938285454250989
def zeroB (p : P4) : Bool := decide (p.x % pp = 0) && (decide (p.y % pp = p.z % pp))
theorem LB_run : zeroB (timesN LN genN) = true := by decide +kernel
theorem LB_zero : pmul LN BP = Pt.zero DK := by
  have h := rep_times rep_gen LN (by decide)
  have z := LB_run
  unfold zeroB at z
  simp only [Bool.and_eq_true, decide_eq_true_eq] at z
  obtain ⟨zx, zy⟩ := z
  obtain ⟨h1, h2, h3, _⟩ := h
  have hx : cK (timesN LN genN).x = (pmul LN BP).x * cK (timesN LN genN).z := h2
  have hy : cK (timesN LN genN).y = (pmul LN BP).y * cK (timesN LN genN).z := h3
  have hz : cK (timesN LN genN).z ≠ 0 := h1
  rw [cK_eq_zero.2 zx] at hx
  rw [cK_eq.2 zy] at hy
  refine Pt.ext' ?_ ?_
  · refine FK.cancel hz ?_
    rw [← hx]
    exact (kzero_mul _).symm
  · refine FK.cancel hz ?_
    rw [← hy]
    exact (kone_mul _).symm
end Go.Proofs.YtdegfgncdphepaaDoor
/- All the variables on the road, and hashed as a contract of the engine, beside a message that is the world's own. -/
namespace Go.Proofs.YtdegfgncdphepaaDoor.Edd
open Go Go.RowKit Shf
open Cat (Parts catC catM catY catN catH catOK cat_calls catY_succ)
set_option linter.unusedSimpArgs false
set_option linter.unusedVariables false
variable {r₀ r : Ren} {w₀ w : World} {m : Mem}
def nA : Nat := Nat.max np ng
def MA : Mem := ((((((List.replicate nA none).set 0 (some ⟨H512, 63⟩)).set 3 (some ⟨K512, 81⟩)).set 2 (some ⟨bl GY, 22⟩)).set 5 (some ⟨bl DN', 22⟩)).set 4 (some ⟨bl 1, 22⟩)).set 1 (some ⟨bl GX, 22⟩)
def glA : List Nat := [0, 3, 2, 5, 4, 1]
theorem MA_flat : flatM MA = true := by kernel_rfl
theorem MA_in : insideG MA glA = true := by kernel_rfl
theorem MA_cov : coversG MA glA = true := by kernel_rfl
theorem M5_covA : coversG M5 glA = true := by kernel_rfl
theorem M0_covA : coversG M0 glA = true := by kernel_rfl
theorem M1_covA : coversG M1 glA = true := by kernel_rfl
theorem M5_MA : gHas M5 MA = true := by kernel_rfl
theorem MA_len : MA.length = nA := by kernel_rfl
theorem MA_M5 (h : Glo MA w) : Glo M5 w := fun b B hB => h b B (gHas_get M5_MA hB)
/-- The message stays the world's own. -/
def msgH (v : Sv) (y : List Value) (r₀ : Ren) (w₀ : World) : Prop := r₀ = glR MA ∧ Glo MA w₀ ∧ WSrc v.val v.n y w₀
def MsgOK (v : Sv) (y : List Value) : Prop := ∀ u ∈ y, IsU8 u
def pieceOf (v : Sv) (y : List Value) (m : Mem) (L : Nat) (u : Value) : Option (List Prop × List Value) :=
  match u with
  | .slice (some ⟨b, o, none⟩) n c => if b = L then none else
    match getB m b with
    | some B => some ([o + n ≤ B.cells.length ∧ ((B.cells.drop o).take n).all (isInt .u8) = true], (B.cells.drop o).take n)
    | none => none
  | .tuple ⟨[.slice x n c]⟩ => some ([x = v.x ∧ n = v.n ∧ c = v.c], y)
  | _ => none
def piecesOf (v : Sv) (y : List Value) (m : Mem) (L : Nat) : List Value → Option (List Prop × List Value)
  | [] => some ([], [])
  | u :: us => match pieceOf v y m L u, piecesOf v y m L us with
    | some (a, b), some (c, d) => some (a ++ c, b ++ d)
    | _, _ => none
def gHsh (v : Sv) (y : List Value) (args : List Value) (m : Mem) : Option (List Prop × Value) :=
  match args with
  | [.slice (some ⟨L, 0, none⟩) p c] => if gHas MA m && (getB MA L).isNone then
      match getB m L with
      | some B => if B.cells.length = p ∧ c = p ∧ p ≤ 1000 then
          match piecesOf v y m L B.cells with
          | some (ts, bs) => some (ts ++ [0 < bs.length ∧ bs.length ≤ 140737488355328], hashV bs)
          | none => none
        else none
      | none => none
    else none
  | _ => none
theorem pieceOf_more {v : Sv} {y : List Value} {L : Nat} {u : Value} {q : List Prop × List Value} {i : Nat} {B : Blk} (hi : m[i]? = some none) (h : pieceOf v y m L u = some q) : pieceOf v y (m.set i (some B)) L u = some q := by
  unfold pieceOf at h ⊢
  split at h
  · rename_i b o n c
    split at h
    · simp at h
    · rename_i hb
      simp only [if_neg hb]
      cases hB : getB m b with
      | none => rw [hB] at h; simp at h
      | some B' => rw [getB_fill (hole_ne hi hB), hB]; rw [hB] at h; exact h
  · exact h
  · simp at h
theorem piecesOf_more {v : Sv} {y : List Value} {L i : Nat} {B : Blk} (hi : m[i]? = some none) : ∀ (us : List Value) {q : List Prop × List Value}, piecesOf v y m L us = some q → piecesOf v y (m.set i (some B)) L us = some q
  | [], q, h => h
  | u :: us, q, h => by
    simp only [piecesOf] at h ⊢
    cases h1 : pieceOf v y m L u with
    | none => rw [h1] at h; simp at h
    | some a =>
      cases h2 : piecesOf v y m L us with
      | none => rw [h1, h2] at h; simp at h
      | some c =>
        rw [pieceOf_more hi h1, piecesOf_more hi us h2]
        rw [h1, h2] at h; exact h
theorem gHsh_more {v : Sv} {y : List Value} : ∀ args (m : Mem) q i B, m[i]? = some none → gHsh v y args m = some q → gHsh v y args (m.set i (some B)) = some q := by
  intro args m q i B hi h
  unfold gHsh at h ⊢
  split at h
  · rename_i L p c
    split at h
    · rename_i hg
      simp only [Bool.and_eq_true] at hg
      simp only [gHas_more hi hg.1, hg.2, Bool.and_self, if_true]
      cases hB : getB m L with
      | none => rw [hB] at h; simp at h
      | some B' =>
        rw [getB_fill (hole_ne hi hB), hB]
        rw [hB] at h
        simp only at h ⊢
        split at h
        · rename_i hc
          simp only [if_pos hc]
          cases hp : piecesOf v y m L B'.cells with
          | none => rw [hp] at h; simp at h
          | some x => rw [piecesOf_more hi _ hp]; rw [hp] at h; exact h
        · simp at h
    · simp at h
  · simp at h
theorem u8_flat {l : List Value} (h : ∀ u ∈ l, IsU8 u) : l.all flat1 = true := List.all_eq_true.2 fun u hu => by
  obtain ⟨x, rfl⟩ := h u hu; rfl
theorem isInt_u8 {l : List Value} (h : l.all (isInt .u8) = true) : ∀ u ∈ l, IsU8 u := fun u hu => by
  have := List.all_eq_true.1 h u hu
  cases u <;> simp [isInt] at this
  subst this; exact ⟨_, rfl⟩
/-- The message in a world that comes of the beginning. -/
theorem msg_now {v : Sv} {y : List Value} (h : msgH v y r₀ w₀) (hf : Fr r₀ w₀ w) (hG : Glo MA w) : WSrc v.val v.n y w := by
  obtain ⟨rfl, hG0, hs⟩ := h
  obtain ⟨hl, ⟨c, hv, h0⟩ | ⟨c, o, cap, hv, hc, hj⟩⟩ := hs
  · exact ⟨hl, .inl ⟨c, hv, h0⟩⟩
  · refine ⟨hl, .inr ⟨c, o, cap, hv, Nat.lt_of_lt_of_le hc hf.size, fun j u hu => ?_⟩⟩
    have h1 := hj j u hu
    have hb : w.heap[c]? = w₀.heap[c]? := by
      cases hm : getB MA c with
      | some B => rw [hG c B hm, hG0 c B hm]
      | none =>
        refine hf.block c hc fun b hb => ?_
        obtain ⟨e, B, hB⟩ := glR_some hb
        subst e
        rw [hm] at hB; cases hB
    simp only [World.cell?] at h1 ⊢
    rw [hb]; exact h1
theorem parts_of {v : Sv} {y : List Value} (hy : MsgOK v y) {L cL : Nat} (hr : Rel r m w) (hL : r L = some cL) (hmsg : WSrc v.val v.n y w) (hna : Cat.notAt cL v.val) : ∀ (us us' : List Value) (ts : List Prop) (bs : List Value), trL (tr1 r) us = some us' → piecesOf v y m L us = some (ts, bs) → (∀ p ∈ ts, p) →
    ∃ ps : Parts, us' = (ps.map fun q => q.1.val) ∧ (ps.map Prod.snd).flatten = bs ∧ ps.length = us.length ∧ ∀ q ∈ ps, q.2.length = q.1.n ∧ (∀ u ∈ q.2, IsU8 u) ∧ WSrc q.1.val q.1.n q.2 w ∧ Cat.notAt cL q.1.val
  | [], us', ts, bs, h, hp, _ => by
    simp only [trL, Option.some.injEq] at h; subst h
    simp only [piecesOf, Option.some.injEq, Prod.mk.injEq] at hp
    exact ⟨[], rfl, hp.2, rfl, fun q hq => by cases hq⟩
  | u :: us, us', ts, bs, h, hp, ht => by
    obtain ⟨u', r', h1, h2, rfl⟩ := trL_cons h
    simp only [piecesOf] at hp
    cases p1 : pieceOf v y m L u with
    | none => rw [p1] at hp; simp at hp
    | some a =>
      cases p2 : piecesOf v y m L us with
      | none => rw [p1, p2] at hp; simp at hp
      | some c =>
        obtain ⟨ta, ba⟩ := a
        obtain ⟨tc, bc⟩ := c
        rw [p1, p2] at hp
        simp only [Option.some.injEq, Prod.mk.injEq] at hp
        obtain ⟨rfl, rfl⟩ := hp
        obtain ⟨ps, e1, e2, e3, e4⟩ := parts_of hy hr hL hmsg hna us r' tc bc h2 p2 (fun p hp => ht p (List.mem_append_right _ hp))
        have key : ∃ q : Sv × List Value, u' = q.1.val ∧ q.2 = ba ∧ q.2.length = q.1.n ∧ (∀ u ∈ q.2, IsU8 u) ∧ WSrc q.1.val q.1.n q.2 w ∧ Cat.notAt cL q.1.val := by
          unfold pieceOf at p1
          split at p1
          · rename_i b o n k
            split at p1
            · simp at p1
            · rename_i hbL
              cases hB : getB m b with
              | none => rw [hB] at p1; simp at p1
              | some B =>
                rw [hB] at p1
                simp only [Option.some.injEq, Prod.mk.injEq] at p1
                obtain ⟨rfl, rfl⟩ := p1
                obtain ⟨t1, t2⟩ := ht _ (List.mem_append_left _ (List.mem_singleton.2 rfl))
                obtain ⟨cb, cs, q1, q2, q3⟩ := hr.cells b B hB
                have hu' : u' = .slice (some ⟨cb, o, none⟩) n k := by
                  simp only [tr1, q1, Option.map_some, Option.some.injEq] at h1
                  exact h1.symm
                subst hu'
                have hu8 := isInt_u8 t2
                have hlen : ((B.cells.drop o).take n).length = n := by rw [List.length_take, List.length_drop]; omega
                refine ⟨(⟨some ⟨cb, o, none⟩, n, k⟩, (B.cells.drop o).take n), rfl, rfl, hlen, hu8, ⟨hlen, .inr ⟨cb, o, k, rfl, hr.lt q1, fun j x hx => ?_⟩⟩, .inr fun e => ?_⟩
                · have e := trL_take n (trL_drop o q2)
                  rw [trL_all (tr1_flat r) (u8_flat hu8)] at e
                  simp only [Option.some.injEq] at e
                  rw [e, List.getElem?_take] at hx
                  split at hx
                  · rw [List.getElem?_drop] at hx
                    simp [World.cell?, q3, hx]
                  · simp at hx
                · simp only at e
                  subst e
                  exact hbL (hr.inj b L cb q1 hL)
          · rename_i x n k
            simp only [Option.some.injEq, Prod.mk.injEq] at p1
            obtain ⟨rfl, rfl⟩ := p1
            obtain ⟨rfl, rfl, rfl⟩ := ht _ (List.mem_append_left _ (List.mem_singleton.2 rfl))
            have hu' : u' = v.val := by
              show u' = Value.slice v.x v.n v.c
              simp only [tr1] at h1
              split at h1
              · simpa using h1.symm
              · simp at h1
            exact ⟨(v, y), hu', rfl, hmsg.1, hy, hmsg, hna⟩
          · simp at p1
        obtain ⟨q, k1, k2, k3, k4, k5, k6⟩ := key
        refine ⟨q :: ps, by rw [k1, e1]; rfl, by rw [List.map_cons, List.flatten_cons, k2, e2], by simp [e3], fun q' hq' => ?_⟩
        rcases List.mem_cons.1 hq' with rfl | hq'
        · exact ⟨k3, k4, k5, k6⟩
        · exact e4 q' hq'
theorem glR_dom {b c : Nat} (h : glR MA b = some c) : (getB MA b).isSome = true := by
  obtain ⟨_, B, hB⟩ := glR_some h; rw [hB]; rfl
theorem gHsh_ok {X : Cx} {v : Sv} {y : List Value} (hX : OkH X Tryd.prog (msgH v y)) (hgl : X.gl = glA) (hy : MsgOK v y) : OkH (X.read 9 (gHsh v y)) Tryd.prog (msgH v y) := by
  refine OkH.read hX (fun r₀ w₀ hH args m ps v' hg hp r w args' hr hf he hglr ha => ?_) gHsh_more
  rw [hgl] at hglr
  unfold gHsh at hg
  split at hg
  · rename_i L p c
    split at hg
    · rename_i hgm
      simp only [Bool.and_eq_true] at hgm
      cases hB : getB m L with
      | none => rw [hB] at hg; simp at hg
      | some B =>
        rw [hB] at hg
        simp only at hg
        split at hg
        · rename_i hc
          obtain ⟨hc1, rfl, hc3⟩ := hc
          cases hpo : piecesOf v y m L B.cells with
          | none => rw [hpo] at hg; simp at hg
          | some x =>
            obtain ⟨ts, bs⟩ := x
            rw [hpo] at hg
            simp only [Option.some.injEq, Prod.mk.injEq] at hg
            obtain ⟨rfl, rfl⟩ := hg
            have hG : Glo MA w := hr.glo hgm.1 MA_flat fun g hg => hglr g (coversG_get MA_cov hg)
            have hmsg := msg_now hH hf hG
            obtain ⟨cL, cs, q1, q2, q3⟩ := hr.cells L B hB
            have hnew : w₀.heap.size ≤ cL := by
              rcases he L cL q1 with h | h
              · rw [hH.1] at h
                have := glR_dom h
                rw [Option.isNone_iff_eq_none] at hgm
                rw [hgm.2] at this; cases this
              · exact h
            have hna : Cat.notAt cL v.val := by
              obtain ⟨_, ⟨c, hv, h0⟩ | ⟨c, o, cap, hv, hcl, _⟩⟩ := hH.2.2
              · rw [hv]; trivial
              · rw [hv]
                right
                show c ≠ cL
                omega
            obtain ⟨ps, e1, e2, e3, e4⟩ := parts_of hy hr q1 hmsg hna B.cells cs ts bs q2 hpo (fun p hp' => hp p (List.mem_append_left _ hp'))
            have hsz := hp _ (List.mem_append_right _ (List.mem_singleton.2 rfl))
            have hcat : catY ps ps.length = bs := by unfold catY; rw [List.take_length]; exact e2
            have hcn : catN ps ps.length = bs.length := by unfold catN; rw [hcat]
            have hlen : ps.length = c := by omega
            obtain ⟨a1, a2, a3⟩ : ∃ a1, args' = [a1] ∧ tr r (.slice (some ⟨L, 0, none⟩) c c) = some a1 := by
              obtain ⟨a1, l1, t1, t2, rfl⟩ := trL_cons ha
              simp only [trL, Option.some.injEq] at t2; subst t2
              exact ⟨a1, rfl, t1⟩
            obtain ⟨c', hc', rfl⟩ := tr_slice a3
            rw [q1] at hc'; cases hc'
            subst a2
            have h := hashed_calls ps (fun q hq => ⟨u8_flat (e4 q hq).2.1, (e4 q hq).1⟩) (fun q hq => (e4 q hq).2.1) (by omega) (by rw [hcn]; exact hsz.1) (by rw [hcn]; exact hsz.2) (c := cL) (ty := B.ty) (MA_M5 hG) (fun g hg e => by
              obtain ⟨B5, hB5⟩ := Option.isSome_iff_exists.1 hg
              have h0 := MA_M5 hH.2.1 g B5 hB5
              have := (Array.getElem?_eq_some_iff.1 h0).1
              omega) (by rw [q3, e1]) (fun q hq => ⟨(e4 q hq).2.2.1, (e4 q hq).2.2.2⟩)
            rw [hlen] at h
            rw [← hlen, hcat, hlen] at h
            have hfv : tr r (hashV bs) = some (hashV bs) := tr_flat r _ (Sc.flat_bv _)
            rcases h with ⟨v', w', k1, rfl, k3⟩ | ⟨k1, k2⟩
            · exact .inl ⟨_, w', k1, hfv, k3⟩
            · refine .inr ⟨k1, k2.mono ?_⟩
              rintro e w' ⟨v', rfl, rfl, k3⟩
              exact ⟨_, rfl, hfv, k3⟩
        · simp at hg
    · simp at hg
  · simp at hg
end Go.Proofs.YtdegfgncdphepaaDoor.Edd
