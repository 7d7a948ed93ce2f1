/- The laws' awake; EddsaAccepts, run. -/
import Derived.Test.YtdegfgncdphepaaDoorEddK
namespace Go.Proofs.YtdegfgncdphepaaDoor.Edd
open Go Go.RowKit Shf
set_option linter.unusedSimpArgs false
set_option linter.unusedVariables false
def XW (F : Fs) : Cx := (EG F).var MA 7 (gPubF F)
theorem XW_ok : (XW R0).Ok Tryd.prog := gPub_ok EG_ok MA_cov
theorem XW_gl (F : Fs) : (XW F).gl = glA := rfl
def aK (F : Fs) : Nat := pubN F (bnum (bv 0))
theorem aw_run (F : Fs) : sfunG Tryd.prog ((XW F).tell [(7, true), (11, true), (16, true)]) MA 60 Tryd.f4 (bodyOf Tryd.f4) [] = some ([IsB (bv 0), (by8 (aK F) 0 == 59) = true, (by8 (aK F) 1 == 106) = true, (by8 (aK F) 2 == 39) = true], .bool true) := by kernel_rfl
theorem aw_gen {F : Fs} (hX : (XW F).Ok Tryd.prog) (h : pubN F 0 = enc0) (w : World) (hw : Glo MA w) : Calls Tryd.prog 4 #[] w fun e w' => e = .returned (.bool true) ∧ Below w.heap.size w w' := by
  have hk : aK F = enc0 := by unfold aK; rw [bnum_bv' (by decide)]; exact h
  have run := aw_run F
  refine sfunG_calls (Cx.tell_ok hX _) mixed MA_flat MA_in Tryd.func4 (by kernel_rfl) run (fun p hp => ?_) rfl (.inl rfl) w hw
  obtain ⟨k0, k1, k2⟩ := key0
  simp only [List.mem_cons, List.not_mem_nil, or_false] at hp
  rcases hp with rfl | rfl | rfl | rfl
  · exact isB_bv _
  · rw [hk, k0]; rfl
  · rw [hk, k1]; rfl
  · rw [hk, k2]; rfl
def gAw : List Value → Option (List Prop × Value)
  | [] => some ([], .bool true)
  | _ => none
theorem gAw_ok {X : Cx} (hX : X.Ok Tryd.prog) (hc : coversG MA X.gl = true) : (X.var MA 4 gAw).Ok Tryd.prog := by
  refine gVar_ok hX MA_flat hc Tryd.func4 (by kernel_rfl) (by kernel_rfl) ?_
  intro args ps v ha hg hp
  unfold gAw at hg
  split at hg
  · simp only [Option.some.injEq, Prod.mk.injEq] at hg
    obtain ⟨rfl, rfl⟩ := hg
    exact ⟨.inl rfl, fun w hw => aw_gen XW_ok (pub0' R0_bas R0_hlv) w hw⟩
  · simp at hg
/-- All that a law calls. -/
def XL (F : Fs) (v : Sv) (y : List Value) : Cx := (((XW F).var MA 4 gAw).read 5 (gMsg (gSgnF F v y))).read 6 (gMsg (gVerF F v y))
theorem XL_gl (F : Fs) (v : Sv) (y : List Value) : (XL F v y).gl = glA := rfl
theorem XL_ok {v : Sv} {y : List Value} (hy : MsgOK v y) (hn : y.length + 400 ≤ 140737488355328) : OkH (XL R0 v y) Tryd.prog (msgH v y) :=
  gVer_ok (EH_ok hy) R0_lt (gSgn_ok (EH_ok hy) (gAw_ok XW_ok MA_cov).h rfl hy hn) rfl hy hn
end Go.Proofs.YtdegfgncdphepaaDoor.Edd
/- L is a prime; a clamped number is no multiple of it; what is signed is verified. -/
namespace Go.Proofs.YtdegfgncdphepaaDoor.Edd
open Go Go.RowKit Shf
set_option linter.unusedSimpArgs false
set_option linter.unusedVariables false
theorem prmL6 : Prm 1224481 := prm_small 1106 (by decide) (by decide) (by decide +kernel)
theorem prmL5 : Prm 1257559732178653 := prm_pock (q := 1224481) (R := 1027014492) (B := 28) 52 2 prmL6 (by decide +kernel)
theorem prmL4 : Prm 4434155615661930479 := prm_pock (q := 1257559732178653) (R := 3526) (B := 0) 64 2 prmL5 (by decide +kernel)
theorem prmL3 : Prm 172054593956031949258510691 := prm_pock (q := 4434155615661930479) (R := 38802110) (B := 0) 90 2 prmL4 (by decide +kernel)
theorem prmL2 : Prm 19757330305831588566944191468367130476339 := prm_pock (q := 172054593956031949258510691) (R := 114831751082918) (B := 0) 136 2 prmL3 (by decide +kernel)
theorem prmL1 : Prm 276602624281642239937218680557139826668747 := prm_pock (q := 19757330305831588566944191468367130476339) (R := 14) (B := 0) 140 2 prmL2 (by decide +kernel)
theorem prmL : Prm LN := prm_pock (q := 276602624281642239937218680557139826668747) (R := 26163907866482859529727157400808004) (B := 0) 256 2 prmL1 (by decide +kernel)
theorem LN_sc : Sc.LN = LN := by decide
theorem BP_ne : BP ≠ Pt.zero DK := fun h => by
  have := congrArg enc h
  rw [enc_BP, enc_zero] at this
  exact absurd this (by decide)
theorem pm_mul (m n : Nat) (p : PT) : pmul (m * n) p = pmul m (pmul n p) := Pt.smul_mul FK p n m
theorem pm_add (m n : Nat) (p : PT) : pmul (m + n) p = padd (pmul m p) (pmul n p) := Pt.smul_add FK p m n
theorem pm_zero (n : Nat) : pmul n (Pt.zero DK) = Pt.zero DK := Pt.smul_zero FK n
theorem pm_LN (t : Nat) (p : PT) (h : pmul LN p = Pt.zero DK) : pmul (t * LN) p = Pt.zero DK := by rw [pm_mul, h, pm_zero]
theorem pm_mod (n : Nat) : pmul (n % LN) BP = pmul n BP := by
  have e : n = n / LN * LN + n % LN := by rw [Nat.mul_comm]; exact (Nat.div_add_mod n LN).symm
  conv => rhs; rw [e]
  rw [pm_add, pm_LN _ _ LB_zero]
  exact (Pt.zero_add FK _).symm
/-- The generator's order is L. -/
theorem ord {n : Nat} (h : pmul n BP = Pt.zero DK) : LN ∣ n := by
  refine Classical.byContradiction fun hd => ?_
  have hf := prmL.fermat hd
  have h2 := prmL.1
  obtain ⟨e, he⟩ : ∃ e, LN - 1 = e + 1 := ⟨LN - 2, by omega⟩
  rw [he, Nat.pow_succ] at hf
  have k1 : pmul (n ^ e * n) BP = Pt.zero DK := by rw [pm_mul, h, pm_zero]
  rw [← pm_mod, hf] at k1
  exact BP_ne (by rw [← k1]; exact (Pt.smul_one FK BP).symm)
theorem low_bits : ∀ x : Fin 256, (bits .andNot .u8 (x.val : Int) 7).toNat % 8 = 0 ∧ 64 ≤ (bits .or .u8 (bits .andNot .u8 (x.val : Int) 128) 64).toNat ∧ (bits .or .u8 (bits .andNot .u8 (x.val : Int) 128) 64).toNat < 128 := by decide +kernel
theorem bsum_app : ∀ (l k : List Value), bsum (l ++ k) = bsum l + 256 ^ l.length * bsum k
  | [], k => by simp [bsum]
  | v :: l, k => by
    have ih := bsum_app l k
    have e : 256 ^ (v :: l).length = 256 * 256 ^ l.length := by rw [List.length_cons, Nat.pow_succ, Nat.mul_comm]
    rw [e]
    cases v <;> (simp only [List.cons_append, bsum]; rw [ih]; rw [Nat.mul_add, Nat.mul_assoc]; try omega)
theorem bsum_lt' : ∀ (l : List Value), (∀ v ∈ l, IsByte v) → bsum l < 256 ^ l.length
  | [], _ => by simp [bsum]
  | v :: l, h => by
    obtain ⟨x, rfl, h0, h1⟩ := h v (by simp)
    have ih := bsum_lt' l fun v hv => h v (by simp [hv])
    have e : 256 ^ (Value.int .u8 x :: l).length = 256 * 256 ^ l.length := by rw [List.length_cons, Nat.pow_succ, Nat.mul_comm]
    rw [e]
    simp only [bsum]
    omega
theorem byte_fin {v : Value} (h : IsByte v) : ∃ x : Fin 256, v = .int .u8 (x.val : Int) := by
  obtain ⟨x, rfl, h0, h1⟩ := h
  exact ⟨⟨x.toNat, by omega⟩, by simp; omega⟩
/-- A clamped number. -/
theorem clamp (o : List Value) (hl : o.length = 64) (ho : ∀ v ∈ o, IsByte v) : bsum (lowL o) % 8 = 0 ∧ 64 * 256 ^ 31 ≤ bsum (lowL o) ∧ bsum (lowL o) < 128 * 256 ^ 31 := by
  have g : ∀ i, i < 64 → ∃ x : Fin 256, intL o i = (x.val : Int) := by
    intro i hi
    obtain ⟨x, hx⟩ := byte_fin (ho o[i] (List.getElem_mem (by omega)))
    refine ⟨x, ?_⟩
    unfold intL
    rw [List.getElem?_eq_getElem (by omega), hx]
  obtain ⟨x, hx⟩ := g 0 (by omega)
  obtain ⟨z, hz⟩ := g 31 (by omega)
  obtain ⟨b1, _, _⟩ := low_bits x
  obtain ⟨_, b2, b3⟩ := low_bits z
  unfold lowL
  rw [hx, hz]
  have hm : ((o.drop 1).take 30).length = 30 := by rw [List.length_take, List.length_drop]; omega
  have hml := bsum_lt' ((o.drop 1).take 30) fun v hv => ho v (List.mem_of_mem_drop (List.mem_of_mem_take hv))
  rw [hm] at hml
  have e : bsum (.int .u8 (bits .andNot .u8 (x.val : Int) 7) :: ((o.drop 1).take 30 ++ [.int .u8 (bits .or .u8 (bits .andNot .u8 (z.val : Int) 128) 64)])) = (bits .andNot .u8 (x.val : Int) 7).toNat + 256 * (bsum ((o.drop 1).take 30) + 256 ^ 30 * (bits .or .u8 (bits .andNot .u8 (z.val : Int) 128) 64).toNat) := by
    simp only [bsum]
    rw [bsum_app, hm]
    simp only [bsum, Nat.mul_zero, Nat.add_zero]
  rw [e]
  have hx8 := bits_hi_u8 .andNot (x.val : Int) 7
  generalize (bits .andNot .u8 (x.val : Int) 7) = p at *
  generalize (bits .or .u8 (bits .andNot .u8 (z.val : Int) 128) 64).toNat = q at *
  generalize bsum ((o.drop 1).take 30) = k at *
  have e30 : (256 : Nat) ^ 31 = 256 * 256 ^ 30 := by decide
  rw [e30]
  generalize (256 : Nat) ^ 30 = P at *
  refine ⟨by omega, ?_, ?_⟩
  · have : P * 64 ≤ P * q := Nat.mul_le_mul_left _ b2
    omega
  · have : P * q ≤ P * 127 := Nat.mul_le_mul_left _ (by omega)
    omega
theorem low_num (s : Nat) : (hlvN s).1 % 8 = 0 ∧ 64 * 256 ^ 31 ≤ (hlvN s).1 ∧ (hlvN s).1 < 128 * 256 ^ 31 := by
  have := clamp (out64 (sumB 32 fun i => intL (bl s) (0 + i))) (out64_len _) (out64_byte _)
  unfold hlvN lowV
  exact this
theorem not_mult {n : Nat} (h8 : n % 8 = 0) (h1 : 64 * 256 ^ 31 ≤ n) (h2 : n < 128 * 256 ^ 31) : ¬ LN ∣ n := by
  rintro ⟨k, rfl⟩
  have e : (256 : Nat) ^ 31 = 452312848583266388373324160190187140051835877600158453279131187530910662656 := by decide
  rw [e] at h1 h2
  have hk : k < 8 := by
    refine Classical.byContradiction fun h => ?_
    have : LN * 8 ≤ LN * k := Nat.mul_le_mul_left _ (by omega)
    unfold LN at this h2
    omega
  have hk2 : 4 ≤ k := by
    refine Classical.byContradiction fun h => ?_
    have : LN * k ≤ LN * 3 := Nat.mul_le_mul_left _ (by omega)
    unfold LN at this h1
    omega
  have : k = 4 ∨ k = 5 ∨ k = 6 ∨ k = 7 := by omega
  unfold LN at h8
  rcases this with rfl | rfl | rfl | rfl <;> exact absurd h8 (by decide)
theorem not_small {n : Nat} (hn : n < RN) (hd : ¬ LN ∣ n) : smlB (basN n) = false := by
  unfold smlB
  rw [bas_enc n hn, clr_enc, rd_enc]
  simp only [Bool.true_and, decide_eq_false_iff_not]
  intro h
  rw [← enc_zero] at h
  have h0 := enc_inj h
  rw [← pm_mul] at h0
  rcases prmL.euclid (ord h0) with h | h
  · exact absurd h (by decide)
  · exact hd h
theorem pt_sub (a b : PT) : padd (padd a b) a.neg = b := by
  show (a.add FK b).add FK a.neg = b
  rw [Pt.add_comm FK a b, Pt.add_assoc, Pt.add_neg, Pt.add_zero]
/-- The equation that a signature meets. -/
theorem sig_eq {a r k : Nat} (ha : a < RN) (hr : r < RN) (hk : k < RN) : addN (basN ((k * a + r) % LN)) (negN (pmlN k (basN a))) = basN r := by
  have hS : (k * a + r) % LN < RN := Nat.lt_trans (Nat.mod_lt _ (by decide)) (by decide)
  rw [bas_enc _ hS, bas_enc _ ha, bas_enc _ hr, mul_enc k hk, neg_enc, (add_enc _ _).1, pm_mod, pm_add, pm_mul, pt_sub]
theorem accepts {F : Fs} (h1 : F.bas = basN) (h2 : F.hlv = hlvN) (h3 : F.rde = rdE) (h4 : F.sml = smlB) (h5 : F.can = fun a => decide (a < Sc.LN)) (h6 : F.mu = fun a b c => (a * b + c) % Sc.LN) (h7 : F.dif = fun s k p => addN (basN s) (negN (pmlN k p))) (hL : F.Lt) (s : Nat) (hs : s < RN) (y : List Value) : verN F (pubN F s) (gC F s y) (gS F s y) y = 0 := by
  have ha := hL.hlv1 s
  have hr := hL.hsh (gY1 F s y)
  have hk := hL.hsh (gY2 F s y)
  have eA : gA F s = (F.hlv s).1 := by unfold gA; rw [bnum_bv' hs]
  have eC : gC F s y = F.bas (F.hsh (gY1 F s y)) := by unfold gC gR; rw [bnum_bv' hr]
  have eK : gK F s = pubN F s := by unfold gK pubN; rw [eA, bnum_bv' ha]
  have eS : gS F s y = (F.hsh (gY2 F s y) * (F.hlv s).1 + F.hsh (gY1 F s y)) % Sc.LN := by
    unfold gS gH gR
    rw [h6, eA, sc_bnum, sc_bnum, sc_bnum, bnum_bv' hk, bnum_bv' ha, bnum_bv' hr]
  have eY : bl (gC F s y) ++ (bl (pubN F s) ++ y) = gY2 F s y := by unfold gY2; rw [take32, take32, eK, List.append_nil]
  have hp : pubN F s = basN (F.hlv s).1 := by unfold pubN; rw [h1]
  have hd : ¬ LN ∣ (F.hlv s).1 := by
    rw [h2]
    obtain ⟨a1, a2, a3⟩ := low_num s
    exact not_mult a1 a2 a3
  unfold verN
  rw [if_neg, if_pos]
  · rw [eY, eC, eS, h7, h1, LN_sc, hp]
    exact sig_eq ha hr hk
  · rintro (h | h | h)
    · rw [h3, hp, bas_enc _ ha] at h
      exact h (rdE_enc _)
    · rw [h4, hp, not_small ha hd] at h
      cases h
    · rw [h5, eS] at h
      have : (F.hsh (gY2 F s y) * (F.hlv s).1 + F.hsh (gY1 F s y)) % Sc.LN < Sc.LN := Nat.mod_lt _ (by decide)
      simp only [decide_eq_false_iff_not] at h
      exact h this
end Go.Proofs.YtdegfgncdphepaaDoor.Edd
/- Sign, Verify and Public in whatever world holds the tables and the message. -/
namespace Go.Proofs.YtdegfgncdphepaaDoor.Edd
open Go Go.RowKit Shf
set_option linter.unusedSimpArgs false
set_option linter.unusedVariables false
theorem glA_in : ∀ g ∈ glA, glR MA g = some g := fun g hg => by
  have h1 : (getB MA g).isSome = true := List.all_eq_true.1 MA_in g hg
  obtain ⟨B, hB⟩ := Option.isSome_iff_exists.1 h1
  simp [glR, hB]
theorem sign_gen {F : Fs} {v : Sv} {y : List Value} (hX : OkH (EH F v y) Tryd.prog (msgH v y)) (hy : MsgOK v y) (hn : y.length + 400 ≤ 140737488355328) (s : Nat) (w : World) (hw : Glo MA w) (hm : WSrc v.val v.n y w) :
    Calls Tryd.prog 5 #[bv s, v.val] w fun e w' => e = .returned (sgv (gC F s y) (gS F s y)) ∧ Below w.heap.size w w' := by
  refine (calls_of_SWn (H := msgH v y) (gl := glA) (R := fun z => z = sgv (gC F s y) (gS F s y)) Tryd.func5 (show _ = some (bodyOf Tryd.f5) from (by kernel_rfl)) (sg_body hX hy hn s) (hw.rel MA_flat) ⟨rfl, hw, hm⟩ glA_in (trL_mk (tr_flat _ _ (flat_bv s)) (trL_mk rfl rfl))).mono ?_
  rintro e w' ⟨z, rfl, rfl, hbel⟩
  exact ⟨rfl, hbel⟩
theorem verify_gen {F : Fs} {v : Sv} {y : List Value} (hX : OkH (EH F v y) Tryd.prog (msgH v y)) (hL : F.Lt) (hy : MsgOK v y) (hn : y.length + 400 ≤ 140737488355328) (A R S : Nat) (hA : A < RN) (hR : R < RN) (hS : S < RN) (w : World) (hw : Glo MA w) (hm : WSrc v.val v.n y w) :
    Calls Tryd.prog 6 #[bv A, v.val, sgv R S] w fun e w' => e = .returned (.int .i64 (verN F A R S y)) ∧ Below w.heap.size w w' := by
  refine (calls_of_SWn (H := msgH v y) (gl := glA) (R := fun z => z = .int .i64 (verN F A R S y)) Tryd.func6 (show _ = some (bodyOf Tryd.f6) from (by kernel_rfl)) (ver_body hX hL hy hn A R S hA hR hS) (hw.rel MA_flat) ⟨rfl, hw, hm⟩ glA_in (trL_mk (tr_flat _ _ (flat_bv A)) (trL_mk rfl (trL_mk (tr_flat _ _ (flat_sgv R S)) rfl)))).mono ?_
  rintro e w' ⟨z, rfl, rfl, hbel⟩
  exact ⟨rfl, hbel⟩
theorem signed_gen {F : Fs} {v : Sv} {y : List Value} (hX : OkH (EH F v y) Tryd.prog (msgH v y)) (hL : F.Lt) (hy : MsgOK v y) (hn : y.length + 400 ≤ 140737488355328) (s : Nat) (hv : verN F (pubN F s) (gC F s y) (gS F s y) y = 0) (w : World) (hw : Glo MA w) (hm : WSrc v.val v.n y w) :
    Calls Tryd.prog 6 #[bv (pubN F s), v.val, sgv (gC F s y) (gS F s y)] w fun e w' => e = .returned (.int .i64 0) ∧ Below w.heap.size w w' := by
  have h := verify_gen hX hL hy hn (pubN F s) (gC F s y) (gS F s y) (hL.bas _) (hL.bas _) (hL.mu _ _ _) w hw hm
  rw [hv] at h
  exact h
/-- What the law needs of the three calls, with letters for what they answer. -/
structure Keeps (v : Sv) (y : List Value) (s : Nat) (k sg : Value) : Prop where
  sign : ∀ w, Glo MA w → WSrc v.val v.n y w → Calls Tryd.prog 5 #[bv s, v.val] w fun e w' => e = .returned sg ∧ Below w.heap.size w w'
  pub : ∀ w, Glo MA w → Calls Tryd.prog 7 #[bv s] w fun e w' => e = .returned k ∧ Below w.heap.size w w'
  ver : ∀ w, Glo MA w → WSrc v.val v.n y w → Calls Tryd.prog 6 #[k, v.val, sg] w fun e w' => e = .returned (.int .i64 0) ∧ Below w.heap.size w w'
  shape : ∃ c : List Value, c.length = 64 ∧ sg = .agg c.toArray ∧ c.toArray.all (·.oneCell') = true
theorem keeps_gen {F : Fs} {v : Sv} {y : List Value} (hX : OkH (EH F v y) Tryd.prog (msgH v y)) (hG : (EG F).Ok Tryd.prog) (hL : F.Lt) (hy : MsgOK v y) (hn : y.length + 400 ≤ 140737488355328) (s : Nat) (hs : s < RN) (hv : verN F (pubN F s) (gC F s y) (gS F s y) y = 0) :
    Keeps v y s (bv (pubN F s)) (sgv (gC F s y) (gS F s y)) :=
  ⟨fun w hw hm => sign_gen hX hy hn s w hw hm, fun w hw => pub_gen hG hL s hs w hw, fun w hw hm => signed_gen hX hL hy hn s hv w hw hm, _, by rw [List.length_append, bl_len, bl_len], rfl, by kernel_rfl⟩
theorem keeps_at {v : Sv} {y : List Value} (hy : MsgOK v y) (hn : y.length + 400 ≤ 140737488355328) (s : Nat) (hs : s < RN) : ∃ k sg, Keeps v y s k sg :=
  ⟨_, _, keeps_gen (EH_ok hy) EG_ok R0_lt hy hn s hs (accepts R0_bas R0_hlv rfl rfl rfl rfl rfl R0_lt s hs y)⟩
theorem awake_any (w : World) (hw : Glo MA w) : Calls Tryd.prog 4 #[] w fun e w' => e = .returned (.bool true) ∧ Below w.heap.size w w' := aw_gen XW_ok (pub0' R0_bas R0_hlv) w hw
end Go.Proofs.YtdegfgncdphepaaDoor.Edd
