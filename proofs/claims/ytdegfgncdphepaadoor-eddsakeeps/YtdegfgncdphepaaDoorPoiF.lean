/- Package point: times as a contract. -/
import Derived.Test.YtdegfgncdphepaaDoorPoiE
namespace Go.Proofs.YtdegfgncdphepaaDoor
open Go Go.RowKit
set_option linter.unusedSimpArgs false
set_option linter.unusedVariables false
def stepN (tot q : P4) : P4 := sumN (sixN tot) q
theorem stepN_ok (t q : P4) : (stepN t q).ok := sumN_ok _ _
theorem stepV_eq {t q : P4} (ht : t.ok) (hq : q.ok) : stepV t q = stepN t q := by
  unfold stepV stepN
  rw [p4_pv ht, p4_pv (sixN_ok _), p4_pv hq]
/-- The loop: the total behind j bytes of n, the greatest first. -/
def tmR (a : P4) (n : Nat) : Nat → P4
  | 0 => neuN
  | j + 1 => stepN (stepN (tmR a n j) (muN a (n / 256 ^ (31 - j) % 256 / 16))) (muN a (n / 256 ^ (31 - j) % 256 % 16))
theorem tmR_ok (a : P4) (n : Nat) : ∀ j, (tmR a n j).ok
  | 0 => neuN_ok
  | j + 1 => stepN_ok _ _
def timesN (n : Nat) (a : P4) : P4 := tmR a n 32
theorem timesN_ok (n : Nat) (a : P4) : (timesN n a).ok := tmR_ok a n 32
theorem muL_len (g : Nat → P4) : (muL g).length = 2048 := by kernel_rfl
theorem putL_whole {l vs : List Value} (h : vs.length = l.length) : putL l 0 vs = vs := by
  unfold putL
  rw [List.take_zero, List.nil_append, Nat.zero_add, h, List.drop_length, List.append_nil]
theorem wrap64' (x : Int) (h : -9223372036854775808 ≤ x ∧ x < 9223372036854775808) : IntKind.i64.wrap x = x := by
  simp [IntKind.wrap, IntKind.bits, IntKind.signed]; omega
theorem tO_ok (n : Nat) {tot q : P4} (ht : tot.ok) (hq : q.ok) (k : Nat) (hk : k < 32) (d : Nat) (hd : d < 16) {x : List Prop} (hx : ∀ p ∈ x, p) : ∀ p ∈ tO n tot q (k : Int) (d : Int) x, p := by
  intro p hp
  unfold tO at hp
  rcases List.mem_append.1 hp with hp | hp
  · rcases List.mem_append.1 hp with hp | hp
    · simp only [List.mem_cons, List.not_mem_nil, or_false] at hp
      rcases hp with rfl | rfl | rfl
      · exact isP_pv ht
      · omega
      · have hb : (bl n)[k]? = some (.int .u8 (by8 n k)) := by simp [bl, hk]
        have e : 0 + ((k : Int)).toNat * 1 = k := by simp
        unfold nb
        rw [e]
        unfold intL
        rw [hb]
    · exact hx p hp
  · simp only [List.mem_cons, List.not_mem_nil, or_false] at hp
    rcases hp with rfl | rfl
    · omega
    · rw [p4_pv ht]; exact ⟨isP_pv (sixN_ok _), isP_pv hq⟩
theorem nb_eq (n k : Nat) (hk : k < 32) : nb n (k : Int) = ((n / 256 ^ k % 256 : Nat) : Int) := by
  have hb : (bl n)[k]? = some (.int .u8 (by8 n k)) := by simp [bl, hk]
  have e : 0 + ((k : Int)).toNat * 1 = k := by simp
  unfold nb
  rw [e]
  unfold intL
  rw [hb]
  rfl
theorem half6 (n : Nat) (a : P4) (g : Nat → P4) (tot : P4) (i : Int) : ∀ d : Nat, d < 16 → proj tK (sexec Tryd.prog (FtX.tellI [(20, (d : Int))]) 40 (tR6 Tryd.f19) [] (thd 22 44 71 n a (muL g) tot i)) = some (tO n tot (g d) i d [0 ≤ (4 : Int), Int.fdiv (nb n i) (2 ^ min (4 : Int).toNat 8) = d], thd 22 44 71 n a (muL g) (stepV tot (g d)) i)
  | 0, _ => t6_0 n a g tot i
  | 1, _ => t6_1 n a g tot i
  | 2, _ => t6_2 n a g tot i
  | 3, _ => t6_3 n a g tot i
  | 4, _ => t6_4 n a g tot i
  | 5, _ => t6_5 n a g tot i
  | 6, _ => t6_6 n a g tot i
  | 7, _ => t6_7 n a g tot i
  | 8, _ => t6_8 n a g tot i
  | 9, _ => t6_9 n a g tot i
  | 10, _ => t6_10 n a g tot i
  | 11, _ => t6_11 n a g tot i
  | 12, _ => t6_12 n a g tot i
  | 13, _ => t6_13 n a g tot i
  | 14, _ => t6_14 n a g tot i
  | 15, _ => t6_15 n a g tot i
  | d + 16, h => absurd h (by omega)
theorem half7 (n : Nat) (a : P4) (g : Nat → P4) (tot : P4) (i : Int) : ∀ d : Nat, d < 16 → proj tK (sexec Tryd.prog (FtX.tellI [(29, (d : Int))]) 40 (tR7 Tryd.f19) [] (thd 22 44 71 n a (muL g) tot i)) = some (tO n tot (g d) i d [bits .and .u8 (nb n i) 15 = d], thd 22 44 71 n a (muL g) (stepV tot (g d)) i)
  | 0, _ => t7_0 n a g tot i
  | 1, _ => t7_1 n a g tot i
  | 2, _ => t7_2 n a g tot i
  | 3, _ => t7_3 n a g tot i
  | 4, _ => t7_4 n a g tot i
  | 5, _ => t7_5 n a g tot i
  | 6, _ => t7_6 n a g tot i
  | 7, _ => t7_7 n a g tot i
  | 8, _ => t7_8 n a g tot i
  | 9, _ => t7_9 n a g tot i
  | 10, _ => t7_10 n a g tot i
  | 11, _ => t7_11 n a g tot i
  | 12, _ => t7_12 n a g tot i
  | 13, _ => t7_13 n a g tot i
  | 14, _ => t7_14 n a g tot i
  | 15, _ => t7_15 n a g tot i
  | d + 16, h => absurd h (by omega)
theorem and15 (x : Nat) (h : x < 256) : bits .and .u8 (x : Int) 15 = ((x % 16 : Nat) : Int) := by
  have key : ∀ y : Fin 256, bits .and .u8 ((y.val : Nat) : Int) 15 = ((y.val % 16 : Nat) : Int) := by decide +kernel
  exact key ⟨x, h⟩
theorem fdiv16 (x : Nat) : Int.fdiv (x : Int) (2 ^ min (4 : Int).toNat 8) = ((x / 16 : Nat) : Int) := by
  show Int.fdiv (x : Int) (2 ^ 4) = _
  rw [Int.fdiv_eq_ediv_of_nonneg _ (by decide)]
  rfl
theorem t_end (n : Nat) (a : P4) (g : Nat → P4) (T : P4) (i : Int) : SW Tryd.prog gl4 (tT Tryd.f19) (tX Tryd.prog Tryd.f19 22 44 71 n a g T i) (fun e s => (e = .normal ∨ e = .ret) ∧ s.1.defers = [] ∧ ∃ v, sres Tryd.prog Tryd.f19 s = some v ∧ (flat v = true ∨ v = undef) ∧ gHas M0 s.2 = true ∧ v = pv T) := by
  refine SW.run F4_ok mixed 40 (of_fstS (t_z n a g T i)) (by simp) ?_
  exact ⟨.inr rfl, t_d n a g T i, pv T, t_r n a g T i, .inl (flat_pv T), t_m n a g T i, rfl⟩
set_option maxRecDepth 10000 in
theorem times_any (n : Nat) (hn : n < RN) {a : P4} (la : a.ok) (w : World) (hw : Glo M0 w) :
    Calls Tryd.prog 19 #[bv n, pv a] w fun e w' => e = .returned (pv (timesN n a)) ∧ Below w.heap.size w w' := by
  have hb : Tryd.f19.body = some (bodyOf Tryd.f19) := by kernel_rfl
  refine (callsG_of_SW (M0 := M0) (gl := gl4) (R := fun u => u = pv (timesN n a)) (args := [bv n, pv a]) M0_flat (fun g hg => ?_) Tryd.func19 hb ?_ (by simp [flat_bv, flat_pv]) w hw).mono ?_
  · have : insideG M0 gl4 = true := by kernel_rfl
    exact List.all_eq_true.1 this g hg
  · refine SW.seqC (by kernel_rfl) ?_
    refine SW.run F4_ok mixed 20 (of_fstS (t_1 n a)) (by simp) ?_
    show SW Tryd.prog gl4 (cR (bodyOf Tryd.f19)) (ts1 Tryd.prog Tryd.f19 n a) _
    refine SW.seqC (by kernel_rfl) ?_
    refine SW.run F4_ok mixed 20 (of_fstS (t_2 n a)) (by
      intro p hp
      simp only [List.mem_cons, List.not_mem_nil, or_false] at hp
      rcases hp with rfl
      exact isP_pv la) ?_
    show SW Tryd.prog gl4 (cR (cR (bodyOf Tryd.f19))) (ts2 Tryd.prog Tryd.f19 n a) _
    refine SW.seqC (by kernel_rfl) ?_
    refine SW.run F4_ok mixed 20 (of_fstS (t_3 n a)) (by simp) ?_
    show SW Tryd.prog gl4 (cR (cR (cR (bodyOf Tryd.f19)))) (ts3 Tryd.prog Tryd.f19 n a) _
    refine SW.seqC (by kernel_rfl) ?_
    refine SW.seqC (by kernel_rfl) ?_
    refine SW.run F4_ok mixed 20 (of_fstS (t_4 n a)) (by simp) ?_
    show SW Tryd.prog gl4 (cR (cL (cR (cR (cR (bodyOf Tryd.f19)))))) (ts4 Tryd.prog Tryd.f19 n a) _
    refine SW.blockC (by kernel_rfl) ?_
    refine SW.loopC (by kernel_rfl) (fun k s => k ≤ 32 ∧ tK s = thd 22 44 71 n a (muL (muN a)) (tmR a n (32 - k)) ((k : Int) - 1)) 32 ⟨Nat.le_refl _, ?_⟩ ?_
    · have e1 : putL (zeroC Tryd.prog 71) 0 (muL (muN a)) = muL (muN a) := putL_whole ((muL_len _).trans zeroC_len.symm)
      have e2 : tmR a n (32 - 32) = neuN := rfl
      have e3 : ((32 : Nat) : Int) - 1 = 31 := rfl
      rw [t_h, p4_pv la, e1, e2, e3]
    · rintro k s ⟨hk, hs⟩
      refine SW.forget (a := s.1) (m := s.2) tF ?_
      show SW Tryd.prog gl4 (tLB Tryd.f19) (tK s) _
      rw [hs]
      refine SW.seqC (by kernel_rfl) ?_
      cases k with
      | zero =>
        refine SW.run (Cx.tell_ok FtX_ok _) mixed 40 (of_fstS (t_x n a (muN a) _ _)) (by simp) ?_
        show SW Tryd.prog gl4 (tT Tryd.f19) (tX Tryd.prog Tryd.f19 22 44 71 n a (muN a) _ _) _
        exact t_end n a (muN a) (tmR a n (32 - 0)) _
      | succ j =>
        have hj : j < 32 := by omega
        have ei : ((j + 1 : Nat) : Int) - 1 = (j : Int) := by omega
        rw [ei]
        have lt := tmR_ok a n (32 - (j + 1))
        obtain ⟨s1, h1, k1⟩ := proj_some (t_go n a (muN a) (tmR a n (32 - (j + 1))) (j : Int))
        refine SW.run (Cx.tell_ok FtX_ok _) mixed 40 h1 (by
          intro p hp
          simp only [List.mem_cons, List.not_mem_nil, or_false] at hp
          rcases hp with rfl
          simp) ?_
        show SW Tryd.prog gl4 (cR (tLB Tryd.f19)) s1 _
        refine SW.forget (a := s1.1) (m := s1.2) tF ?_
        show SW Tryd.prog gl4 (cR (tLB Tryd.f19)) (tK s1) _
        rw [k1]
        refine SW.seqC (by kernel_rfl) ?_
        refine SW.blockC (by kernel_rfl) ?_
        refine SW.seqC (by kernel_rfl) ?_
        have hB : n / 256 ^ j % 256 < 256 := Nat.mod_lt _ (by decide)
        obtain ⟨B, hBe⟩ : ∃ B, B = n / 256 ^ j % 256 := ⟨_, rfl⟩
        rw [← hBe] at hB
        have hnb : nb n (j : Int) = (B : Int) := by rw [nb_eq n j hj, hBe]
        obtain ⟨s2, h2, k2⟩ := proj_some (half6 n a (muN a) (tmR a n (32 - (j + 1))) (j : Int) (B / 16) (by omega))
        refine SW.run (Cx.tellI_ok FtX_ok _) mixed 40 h2 (tO_ok n lt (muN_ok a _) j hj (B / 16) (by omega) (by
          intro p hp
          simp only [List.mem_cons, List.not_mem_nil, or_false] at hp
          rcases hp with rfl | rfl
          · decide
          · rw [hnb]; exact fdiv16 B)) ?_
        show SW Tryd.prog gl4 (tR7 Tryd.f19) s2 _
        refine SW.forget (a := s2.1) (m := s2.2) tF ?_
        show SW Tryd.prog gl4 (tR7 Tryd.f19) (tK s2) _
        rw [k2, stepV_eq lt (muN_ok a _)]
        have lt2 := stepN_ok (tmR a n (32 - (j + 1))) (muN a (B / 16))
        obtain ⟨s3, h3, k3⟩ := proj_some (half7 n a (muN a) (stepN (tmR a n (32 - (j + 1))) (muN a (B / 16))) (j : Int) (B % 16) (by omega))
        refine SW.run (Cx.tellI_ok FtX_ok _) mixed 40 h3 (tO_ok n lt2 (muN_ok a _) j hj (B % 16) (by omega) (by
          intro p hp
          simp only [List.mem_cons, List.not_mem_nil, or_false] at hp
          rcases hp with rfl
          rw [hnb]; exact and15 B hB)) ?_
        show SW Tryd.prog gl4 (tR5 Tryd.f19) s3 _
        refine SW.forget (a := s3.1) (m := s3.2) tF ?_
        show SW Tryd.prog gl4 (tR5 Tryd.f19) (tK s3) _
        rw [k3, stepV_eq lt2 (muN_ok a _)]
        obtain ⟨s4, h4, k4⟩ := proj_some (t_5 n a (muN a) (stepN (stepN (tmR a n (32 - (j + 1))) (muN a (B / 16))) (muN a (B % 16))) (j : Int))
        refine SW.run F4_ok mixed 40 h4 (by simp) ⟨j, by omega, by omega, ?_⟩
        rw [k4, wrap64' _ (by omega)]
        have e : 32 - j = (32 - (j + 1)) + 1 := by omega
        rw [e]
        show _ = thd _ _ _ _ _ _ (stepN (stepN (tmR a n (32 - (j + 1))) (muN a (n / 256 ^ (31 - (32 - (j + 1))) % 256 / 16))) (muN a (n / 256 ^ (31 - (32 - (j + 1))) % 256 % 16))) _
        rw [show 31 - (32 - (j + 1)) = j by omega, ← hBe]
  · rintro e w' ⟨v, rfl, rfl, hb⟩
    exact ⟨rfl, hb⟩
def gTim : List Value → Option (List Prop × Value)
  | [A, B] => some ([IsB A ∧ IsP B], pv (timesN (bnum A) (p4 B)))
  | _ => none
theorem gTim_ok {X : Cx} (hX : X.Ok Tryd.prog) (hc : coversG M0 X.gl = true) : (X.var M0 19 gTim).Ok Tryd.prog := by
  refine gVar_ok hX M0_flat hc Tryd.func19 (by kernel_rfl) (by kernel_rfl) ?_
  intro args ps v ha hg hp
  unfold gTim at hg
  split at hg
  · rename_i A B
    simp only [Option.some.injEq, Prod.mk.injEq] at hg
    obtain ⟨rfl, rfl⟩ := hg
    obtain ⟨hA, ⟨hB, lB⟩⟩ := hp _ (List.mem_singleton.2 rfl)
    refine ⟨.inl (flat_pv _), fun w hw => ?_⟩
    have h := times_any (bnum A) (bnum_lt hA) lB w hw
    rw [← (show A = bv (bnum A) from hA), ← hB] at h
    exact h
  · simp at hg
def F5 : Cx := F4.var M0 19 gTim
theorem F5_ok : F5.Ok Tryd.prog := gTim_ok F4_ok (by kernel_rfl)
end Go.Proofs.YtdegfgncdphepaaDoor
