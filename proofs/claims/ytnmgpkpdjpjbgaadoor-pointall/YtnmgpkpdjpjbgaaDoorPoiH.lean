/- Package point: read as a contract. -/
import Derived.Test.YtnmgpkpdjpjbgaaDoorPoiG
namespace Go.Proofs.YtnmgpkpdjpjbgaaDoor
open Go Go.RowKit
set_option linter.unusedSimpArgs false
set_option linter.unusedVariables false
def F8 : Cx := F7.var M0 31 gWr
theorem F8_ok : F8.Ok Tryd.prog := gWr_ok F7_ok (by kernel_rfl)
def oddB (n : Nat) : Bool := !(bits .and .u8 (by8 n 31) 128 == 0)
def ncB (n : Nat) : Bool := !decide (bnum (lowV n) < pp)
def sxV (n : Nat) : Nat := bnum (bv (sxN (bnum (lowV n))))
def errB (n : Nat) : Bool := !(sqe (sxV n) == 0)
def rtV (n : Nat) : Value := bv (sqv (sxV n))
def zerB (n : Nat) : Bool := eqB (bl (sqv (sxV n))).toArray (bl 0).toArray 32
def noP : P4 := ⟨0, 0, 0, 0⟩
theorem al0 : ∀ p ∈ ([] : List Prop), p := fun _ h => (by cases h)
theorem al {q : Prop} {l : List Prop} (hq : q) (h : ∀ p ∈ l, p) : ∀ p ∈ q :: l, p := fun p hp => by
  rcases List.mem_cons.1 hp with rfl | hp
  · exact hq
  · exact h p hp
theorem rd_a_true (n : Nat) : sfunG Tryd.prog (F8.tell [(11, true), (19, true)]) M0 80 Tryd.f30 (bodyOf Tryd.f30) [bv n] = some ([oddB n = true, IsB (lowV n), ncB n = true], .tuple #[pv noP, .int .i64 2]) := by kernel_rfl
theorem rd_b_true (n : Nat) : sfunG Tryd.prog (F8.tell [(11, true), (19, false), (28, true)]) M0 80 Tryd.f30 (bodyOf Tryd.f30) [bv n] = some ([oddB n = true, IsB (lowV n), ncB n = false, IsB (lowV n), IsB (bv (sxN (bnum (lowV n)))), errB n = true], .tuple #[pv noP, .int .i64 2]) := by kernel_rfl
theorem rd_a_false (n : Nat) : sfunG Tryd.prog (F8.tell [(11, false), (19, true)]) M0 80 Tryd.f30 (bodyOf Tryd.f30) [bv n] = some ([oddB n = false, IsB (lowV n), ncB n = true], .tuple #[pv noP, .int .i64 2]) := by kernel_rfl
theorem rd_b_false (n : Nat) : sfunG Tryd.prog (F8.tell [(11, false), (19, false), (28, true)]) M0 80 Tryd.f30 (bodyOf Tryd.f30) [bv n] = some ([oddB n = false, IsB (lowV n), ncB n = false, IsB (lowV n), IsB (bv (sxN (bnum (lowV n)))), errB n = true], .tuple #[pv noP, .int .i64 2]) := by kernel_rfl
theorem rd_c (n : Nat) : sfunG Tryd.prog (F8.tell [(11, true), (19, false), (28, false), (34, true)]) M0 80 Tryd.f30 (bodyOf Tryd.f30) [bv n] = some ([oddB n = true, IsB (lowV n), ncB n = false, IsB (lowV n), IsB (bv (sxN (bnum (lowV n)))), errB n = false, zerB n = true], .tuple #[pv noP, .int .i64 2]) := by kernel_rfl
theorem rd_d (n : Nat) : sfunG Tryd.prog (F8.tell [(11, true), (19, false), (28, false), (34, false)]) M0 80 Tryd.f30 (bodyOf Tryd.f30) [bv n] = some ([oddB n = true, IsB (lowV n), ncB n = false, IsB (lowV n), IsB (bv (sxN (bnum (lowV n)))), errB n = false, zerB n = false, IB (bv 0) (rtV n), IB (SB (bv 0) (rtV n)) (lowV n)], .tuple #[pv (atN (bnum (SB (bv 0) (rtV n))) (bnum (lowV n))), .int .i64 0]) := by kernel_rfl
theorem rd_e (n : Nat) : sfunG Tryd.prog (F8.tell [(11, false), (19, false), (28, false)]) M0 80 Tryd.f30 (bodyOf Tryd.f30) [bv n] = some ([oddB n = false, IsB (lowV n), ncB n = false, IsB (lowV n), IsB (bv (sxN (bnum (lowV n)))), errB n = false, IB (rtV n) (lowV n)], .tuple #[pv (atN (bnum (rtV n)) (bnum (lowV n))), .int .i64 0]) := by kernel_rfl
/-- What read answers. -/
def rdOdd (n : Nat) : Bool := decide (TT ≤ n)
def rdRt (n : Nat) : Nat := sqv (sxN (n % TT))
def rdOk (n : Nat) : Bool := decide (n % TT < pp) && (decide (sqe (sxN (n % TT)) = 0) && !(rdOdd n && decide (rdRt n = 0)))
def rdX (n : Nat) : Nat := if rdOdd n then fsb 0 (rdRt n) else rdRt n
def rdP (n : Nat) : P4 := if rdOk n then atN (rdX n) (n % TT) else noP
def rdE (n : Nat) : Int := if rdOk n then 0 else 2
theorem sqv_lt (a : Nat) : sqv a < RN := by
  unfold sqv
  split
  · unfold ev
    have := rt_lt a
    have h2 : pp < RN := by decide
    split <;> omega
  · decide
theorem modTT_lt (n : Nat) : n % TT < RN := Nat.lt_trans (Nat.mod_lt _ (by decide)) (by decide)
theorem sxN_lt (y : Nat) : sxN y < RN := fmlR _ _
theorem oddB_eq {n : Nat} (h : n < RN) : oddB n = rdOdd n := by
  unfold oddB rdOdd
  have hb : n / 256 ^ 31 % 256 < 256 := Nat.mod_lt _ (by decide)
  have o := (byte_ops ⟨n / 256 ^ 31 % 256, hb⟩).2.1
  simp only at o
  show (!(bits .and .u8 ((n / 256 ^ 31 % 256 : Nat) : Int) 128 == 0)) = _
  rw [o, decide_eq_decide]
  have h2 : n / 256 ^ 31 < 256 := by rw [Nat.div_lt_iff_lt_mul (by decide)]; exact Nat.lt_of_lt_of_le h (by decide)
  rw [Nat.mod_eq_of_lt h2, Nat.le_div_iff_mul_le (by decide), tt_pow, Nat.mul_comm]
theorem ncB_eq {n : Nat} (h : n < RN) : ncB n = !decide (n % TT < pp) := by
  unfold ncB; rw [lowV_eq n h, bnum_bv' (modTT_lt n)]
theorem sxV_eq {n : Nat} (h : n < RN) : sxV n = sxN (n % TT) := by
  unfold sxV; rw [lowV_eq n h, bnum_bv' (modTT_lt n), bnum_bv' (sxN_lt _)]
theorem errB_eq {n : Nat} (h : n < RN) : errB n = !decide (sqe (sxN (n % TT)) = 0) := by
  unfold errB; rw [sxV_eq h]
  by_cases e : sqe (sxN (n % TT)) = 0 <;> simp [e]
theorem rtV_eq {n : Nat} (h : n < RN) : rtV n = bv (rdRt n) := by unfold rtV rdRt; rw [sxV_eq h]
/-- Rows of bytes, held against one another. -/
theorem eqB_bl (m n : Nat) (hm : m < RN) (hn : n < RN) : eqB (bl m).toArray (bl n).toArray 32 = decide (m = n) := by
  have g : ∀ k i, i < 32 → intAt (bl k).toArray i = by8 k i := fun k i hi => by
    unfold intAt
    have : (bl k).toArray[i]? = some (.int .u8 (by8 k i)) := by simp [bl, hi]
    rw [this]
  unfold eqB
  by_cases h : m = n
  · subst h
    rw [decide_eq_true rfl]
    exact List.all_eq_true.2 fun i _ => by simp
  · rw [decide_eq_false h]
    apply Bool.eq_false_iff.2
    intro hall
    apply h
    have key := low_eq (m := m) (n := n) 32 (fun i hi => by
      have := List.all_eq_true.1 hall i (List.mem_range.2 hi)
      rw [g m i hi, g n i hi] at this
      simpa using this)
    have e : 256 ^ 32 = RN := by decide
    rw [e, Nat.mod_eq_of_lt hm, Nat.mod_eq_of_lt hn] at key
    exact key
theorem zerB_eq {n : Nat} (h : n < RN) : zerB n = decide (rdRt n = 0) := by
  unfold zerB; rw [sxV_eq h]; exact eqB_bl _ 0 (sqv_lt _) (by decide)
theorem rdP_ok (n : Nat) : (rdP n).ok := by
  unfold rdP
  split
  · refine atN_ok ?_ (modTT_lt n)
    unfold rdX
    split
    · exact fsbR _ _
    · exact sqv_lt _
  · exact ⟨by decide, by decide, by decide, by decide⟩
theorem read_any (n : Nat) (h : n < RN) (w : World) (hw : Glo M0 w) : Calls Tryd.prog 30 #[bv n] w fun e w' => e = .returned (.tuple #[pv (rdP n), .int .i64 (rdE n)]) ∧ Below w.heap.size w w' := by
  have hl := lowV_eq n h
  have fin : ∀ {X : Cx} (hX : X.Ok Tryd.prog) (hin : insideG M0 X.gl = true) {ps : List Prop} {v : Value} (run : sfunG Tryd.prog X M0 80 Tryd.f30 (bodyOf Tryd.f30) [bv n] = some (ps, v)) (hp : ∀ p ∈ ps, p) (hv : v = .tuple #[pv (rdP n), .int .i64 (rdE n)]), Calls Tryd.prog 30 #[bv n] w fun e w' => e = .returned (.tuple #[pv (rdP n), .int .i64 (rdE n)]) ∧ Below w.heap.size w w' := by
    intro X hX hin ps v run hp hv
    subst hv
    exact sfunG_calls hX mixed M0_flat hin Tryd.func30 (by kernel_rfl) run hp (by simp [flat_bv]) (.inl (flat_tupP _ _)) w hw
  have bad : rdOk n = false → (Value.tuple #[pv noP, .int .i64 2]) = .tuple #[pv (rdP n), .int .i64 (rdE n)] := fun hk => by
    unfold rdP rdE; rw [hk, if_neg Bool.false_ne_true, if_neg Bool.false_ne_true]
  have hrt : rdRt n < RN := sqv_lt _
  have IL : IsB (lowV n) := by rw [hl]; exact isB_bv _
  have bl' : bnum (lowV n) = n % TT := by rw [hl, bnum_bv' (modTT_lt n)]
  by_cases hc : n % TT < pp
  · have c1 : ncB n = false := by rw [ncB_eq h]; simp [hc]
    by_cases he : sqe (sxN (n % TT)) = 0
    · have e1 : errB n = false := by rw [errB_eq h]; simp [he]
      by_cases ho : rdOdd n = true
      · have o1 : oddB n = true := by rw [oddB_eq h]; exact ho
        by_cases hz : rdRt n = 0
        · have z1 : zerB n = true := by rw [zerB_eq h]; simp [hz]
          exact fin (Cx.tell_ok F8_ok _) (by kernel_rfl) (rd_c n) (al o1 (al IL (al c1 (al IL (al (isB_bv _) (al e1 (al z1 al0))))))) (bad (by unfold rdOk; simp [ho, hz]))
        · have z1 : zerB n = false := by rw [zerB_eq h]; simp [hz]
          have hk : rdOk n = true := by unfold rdOk; simp [hc, he, ho, hz]
          refine fin (Cx.tell_ok F8_ok _) (by kernel_rfl) (rd_d n) (al o1 (al IL (al c1 (al IL (al (isB_bv _) (al e1 (al z1 (al ib (al ⟨isB_bv _, IL⟩ al0))))))))) ?_
          · unfold rdP rdE rdX
            rw [hk, ho, bl', rtV_eq h, bnum_SB 0 (rdRt n) (by decide) hrt, bnum_bv' (fsbR _ _), if_pos rfl, if_pos rfl, if_pos rfl]
      · have ho : rdOdd n = false := by simpa using ho
        have o1 : oddB n = false := by rw [oddB_eq h]; exact ho
        have hk : rdOk n = true := by unfold rdOk; simp [hc, he, ho]
        refine fin (Cx.tell_ok F8_ok _) (by kernel_rfl) (rd_e n) (al o1 (al IL (al c1 (al IL (al (isB_bv _) (al e1 (al ⟨isB_bv _, IL⟩ al0))))))) ?_
        · unfold rdP rdE rdX
          rw [hk, ho, bl', rtV_eq h, bnum_bv' hrt, if_pos rfl, if_pos rfl, if_neg Bool.false_ne_true]
    · have e1 : errB n = true := by rw [errB_eq h]; simp [he]
      have hk : rdOk n = false := by unfold rdOk; simp [he]
      cases ho : oddB n
      · exact fin (Cx.tell_ok F8_ok _) (by kernel_rfl) (rd_b_false n) (al ho (al IL (al c1 (al IL (al (isB_bv _) (al e1 al0)))))) (bad hk)
      · exact fin (Cx.tell_ok F8_ok _) (by kernel_rfl) (rd_b_true n) (al ho (al IL (al c1 (al IL (al (isB_bv _) (al e1 al0)))))) (bad hk)
  · have c1 : ncB n = true := by rw [ncB_eq h]; simp [hc]
    have hk : rdOk n = false := by unfold rdOk; simp [hc]
    cases ho : oddB n
    · exact fin (Cx.tell_ok F8_ok _) (by kernel_rfl) (rd_a_false n) (al ho (al IL (al c1 al0))) (bad hk)
    · exact fin (Cx.tell_ok F8_ok _) (by kernel_rfl) (rd_a_true n) (al ho (al IL (al c1 al0))) (bad hk)
def gRd : List Value → Option (List Prop × Value)
  | [A] => some ([IsB A], .tuple #[pv (rdP (bnum A)), .int .i64 (rdE (bnum A))])
  | _ => none
theorem gRd_ok {X : Cx} (hX : X.Ok Tryd.prog) (hc : coversG M0 X.gl = true) : (X.var M0 30 gRd).Ok Tryd.prog := by
  refine gVar_ok hX M0_flat hc Tryd.func30 (by kernel_rfl) (by kernel_rfl) ?_
  intro args ps v ha hg hp
  unfold gRd at hg
  split at hg
  · rename_i A
    simp only [Option.some.injEq, Prod.mk.injEq] at hg
    obtain ⟨rfl, rfl⟩ := hg
    have hA := hp _ (List.mem_singleton.2 rfl)
    refine ⟨.inl (flat_tupP _ _), fun w hw => ?_⟩
    have h := read_any (bnum A) (bnum_lt hA) w hw
    rw [← (show A = bv (bnum A) from hA)] at h
    exact h
  · simp at hg
def F9 : Cx := F8.var M0 30 gRd
theorem F9_ok : F9.Ok Tryd.prog := gRd_ok F8_ok (by kernel_rfl)
end Go.Proofs.YtnmgpkpdjpjbgaaDoor
