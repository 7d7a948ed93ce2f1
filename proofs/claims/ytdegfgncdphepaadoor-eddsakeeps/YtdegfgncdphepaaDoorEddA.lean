/- eddsa: halves, difference, Public. -/
import Derived.Test.YtdegfgncdphepaaDoorPoiJ
namespace Go.Proofs.YtdegfgncdphepaaDoor.Edd
open Go Go.RowKit Shf
open Cat (Parts catC catM catY catN catH catOK cat_calls catY_succ)
set_option linter.unusedSimpArgs false
set_option linter.unusedVariables false
/-- Letters for what is reckoned. -/
structure Fs where
  bas : Nat → Nat
  pml : Nat → Nat → Nat
  neg : Nat → Nat
  add : Nat → Nat → Nat
  rde : Nat → Int
  ade : Nat → Nat → Int
  sml : Nat → Bool
  sha : List Value → Nat → Nat → S8
  hsh : List Value → Nat
  mu : Nat → Nat → Nat → Nat
  can : Nat → Bool
  hlv : Nat → Nat × Nat
  dif : Nat → Nat → Nat → Nat
def gBasF (F : Fs) : List Value → Option (List Prop × Value)
  | [A] => some ([IsB A], bv (F.bas (bnum A)))
  | _ => none
def gPmlF (F : Fs) : List Value → Option (List Prop × Value)
  | [A, B] => some ([IsB A ∧ IsB B], .tuple #[bv (F.pml (bnum A) (bnum B)), .int .i64 (F.rde (bnum B))])
  | _ => none
def gNegF (F : Fs) : List Value → Option (List Prop × Value)
  | [A] => some ([IsB A], .tuple #[bv (F.neg (bnum A)), .int .i64 (F.rde (bnum A))])
  | _ => none
def gAdpF (F : Fs) : List Value → Option (List Prop × Value)
  | [A, B] => some ([IsB A ∧ IsB B], .tuple #[bv (F.add (bnum A) (bnum B)), .int .i64 (F.ade (bnum A) (bnum B))])
  | _ => none
def gSmlF (F : Fs) : List Value → Option (List Prop × Value)
  | [A] => some ([IsB A], .tuple #[.bool (F.sml (bnum A)), .int .i64 (F.rde (bnum A))])
  | _ => none
def gMulF (F : Fs) : List Value → Option (List Prop × Value)
  | [A, B, C] => some ([Sc.IsB A ∧ Sc.IsB B ∧ Sc.IsB C], Sc.bv (F.mu (Sc.bnum A) (Sc.bnum B) (Sc.bnum C)))
  | _ => none
def gCanF (F : Fs) : List Value → Option (List Prop × Value)
  | [A] => some ([Sc.IsB A], .bool (F.can (Sc.bnum A)))
  | _ => none
/-- What they are. -/
def hN (y : List Value) : Nat := Sc.bnum (shaV y) % Sc.LN
theorem hashV_eq (y : List Value) : hashV y = Sc.bv (hN y) := rfl
def EF (F : Fs) : Cx := ((((((((Cx.none.glo glA).read 16 (Go.Proofs.YtdegfgncdphepaaDoor.gRd M5 Tsm (fun l o n _ => .agg (out64 (F.sha l o n)).toArray))).var M1 10 (gBasF F)).var M0 30 (gPmlF F)).var M0 31 (gNegF F)).var M0 32 (gAdpF F)).var M0 13 (gSmlF F)).pure 11 (gMulF F)).pure 14 (gCanF F)
theorem EF_gl (F : Fs) : (EF F).gl = glA := rfl
structure Fs.Real (F : Fs) : Prop where
  bas : F.bas = basN
  pml : F.pml = pmlN
  neg : F.neg = negN
  add : F.add = addN
  rde : F.rde = rdE
  ade : F.ade = addE
  sml : F.sml = smlB
  sha : F.sha = fun l o n => sumB n fun i => intL l (o + i)
  mu : F.mu = fun a b c => (a * b + c) % Sc.LN
  can : F.can = fun a => decide (a < Sc.LN)
theorem EF_ok {F : Fs} (h : F.Real) : (EF F).Ok Tryd.prog := by
  have e1 : gBasF F = gBas := by funext l; unfold gBasF gBas; rw [h.bas]; rcases l with _ | ⟨a, _ | ⟨b, _ | ⟨c, _ | _⟩⟩⟩ <;> rfl
  have e2 : gPmlF F = gPml := by funext l; unfold gPmlF gPml; rw [h.pml, h.rde]; rcases l with _ | ⟨a, _ | ⟨b, _ | ⟨c, _ | _⟩⟩⟩ <;> rfl
  have e3 : gNegF F = gNeg := by funext l; unfold gNegF gNeg; rw [h.neg, h.rde]; rcases l with _ | ⟨a, _ | ⟨b, _ | ⟨c, _ | _⟩⟩⟩ <;> rfl
  have e4 : gAdpF F = gAdp := by funext l; unfold gAdpF gAdp; rw [h.add, h.ade]; rcases l with _ | ⟨a, _ | ⟨b, _ | ⟨c, _ | _⟩⟩⟩ <;> rfl
  have e5 : gSmlF F = gSml := by funext l; unfold gSmlF gSml; rw [h.sml, h.rde]; rcases l with _ | ⟨a, _ | ⟨b, _ | ⟨c, _ | _⟩⟩⟩ <;> rfl
  have e6 : gMulF F = Sc.gMulS := by funext l; unfold gMulF Sc.gMulS Sc.MU; rw [h.mu]; rcases l with _ | ⟨a, _ | ⟨b, _ | ⟨c, _ | _⟩⟩⟩ <;> rfl
  have e7 : gCanF F = Sc.gCanS := by funext l; unfold gCanF Sc.gCanS Sc.CA; rw [h.can]; rcases l with _ | ⟨a, _ | ⟨b, _ | ⟨c, _ | _⟩⟩⟩ <;> rfl
  unfold EF
  rw [e1, e2, e3, e4, e5, e6, e7, h.sha]
  exact Sc.gCanS_ok (Sc.gMulS_ok (gSml_ok (gAdp_ok (gNeg_ok (gPml_ok (gBas_ok (Shf.gSum_ok (Cx.glo_ok Cx.none_ok (by intro g hg; cases hg)) M5_covA) M1_covA) M0_covA) M0_covA) M0_covA) M0_covA))
/-- halves -/
def lowL (o : List Value) : List Value := .int .u8 (bits .andNot .u8 (intL o 0) 7) :: ((o.drop 1).take 30 ++ [.int .u8 (bits .or .u8 (bits .andNot .u8 (intL o 31) 128) 64)])
theorem hlv_run (F : Fs) (s : Nat) : sfunG Tryd.prog (EF F) MA 60 Tryd.f8 (bodyOf Tryd.f8) [bv s] = some ([(bl s).all flatR = true, Tsm (bl s) 0 32 32 []], .tuple #[.agg (lowL (out64 (F.sha (bl s) 0 32))).toArray, .agg ((out64 (F.sha (bl s) 0 32)).drop 32).toArray]) := by kernel_rfl
/-- difference -/
theorem dif_run (F : Fs) (s k p : Nat) : sfunG Tryd.prog (EF F) MA 60 Tryd.f15 (bodyOf Tryd.f15) [bv s, bv k, bv p] = some ([IsB (bv k) ∧ IsB (bv p), IsB (bv (F.pml (bnum (bv k)) (bnum (bv p)))), IsB (bv s), IsB (bv (F.bas (bnum (bv s)))) ∧ IsB (bv (F.neg (bnum (bv (F.pml (bnum (bv k)) (bnum (bv p)))))))], bv (F.add (bnum (bv (F.bas (bnum (bv s))))) (bnum (bv (F.neg (bnum (bv (F.pml (bnum (bv k)) (bnum (bv p)))))))))) := by kernel_rfl
end Go.Proofs.YtdegfgncdphepaaDoor.Edd
/- eddsa: halves, difference and Public as contracts; contracts of functions that are handed the message. -/
namespace Go.Proofs.YtdegfgncdphepaaDoor.Edd
open Go Go.RowKit Shf
set_option linter.unusedSimpArgs false
set_option linter.unusedVariables false
variable {r₀ r : Ren} {w₀ w : World} {m : Mem}
theorem sc_bv (n : Nat) : Sc.bv n = bv n := rfl
theorem sc_bsum : ∀ l : List Value, Sc.bsum l = bsum l
  | [] => rfl
  | v :: l => by
    have ih := sc_bsum l
    cases v <;> simp only [Sc.bsum, bsum, ih]
theorem sc_bnum (A : Value) : Sc.bnum A = bnum A := by
  cases A <;> first | rfl | exact sc_bsum _
theorem isB_row {l : List Value} (hl : l.length = 32) (h : ∀ v ∈ l, IsByte v) : IsB (.agg l.toArray) := by
  have := isB_of hl h
  unfold Sc.IsB at this
  unfold IsB
  rw [sc_bnum] at this
  exact this
theorem sc_isB {A : Value} : Sc.IsB A ↔ IsB A := by
  unfold Sc.IsB IsB; rw [sc_bnum]; rfl
theorem bl_byte (n : Nat) : ∀ v ∈ bl n, IsByte v := by
  intro v hv
  obtain ⟨i, _, rfl⟩ := List.mem_map.1 hv
  exact ⟨_, rfl, by unfold by8; omega, by unfold by8; omega⟩
theorem bl_len (n : Nat) : (bl n).length = 32 := by simp [bl]
/-- halves, in numbers. -/
def lowV (s : Nat) : Value := .agg (lowL (out64 (sumB 32 fun i => intL (bl s) (0 + i)))).toArray
def preV (s : Nat) : Value := .agg ((out64 (sumB 32 fun i => intL (bl s) (0 + i))).drop 32).toArray
def hlvN (s : Nat) : Nat × Nat := (bnum (lowV s), bnum (preV s))
theorem u8_bits (op : BinOp) (a b : Int) : IsByte (.int .u8 (bits op .u8 a b)) := ⟨_, rfl, bits_lo_u8 op a b, by have := bits_hi_u8 op a b; omega⟩
theorem lowL_byte {o : List Value} (h : ∀ v ∈ o, IsByte v) : ∀ v ∈ lowL o, IsByte v := by
  intro v hv
  unfold lowL at hv
  rcases List.mem_cons.1 hv with rfl | hv
  · exact u8_bits _ _ _
  · rcases List.mem_append.1 hv with hv | hv
    · exact h v (List.mem_of_mem_drop (List.mem_of_mem_take hv))
    · rw [List.mem_singleton.1 hv]; exact u8_bits _ _ _
theorem lowV_B (s : Nat) : IsB (lowV s) := isB_row rfl (lowL_byte (out64_byte _))
theorem preV_B (s : Nat) : IsB (preV s) := isB_row rfl fun v hv => out64_byte _ v (List.mem_of_mem_drop hv)
def realF (F : Fs) : Fs := ⟨basN, pmlN, negN, addN, rdE, addE, smlB, fun l o n => sumB n fun i => intL l (o + i), hN, fun a b c => (a * b + c) % Sc.LN, fun a => decide (a < Sc.LN), hlvN, fun s k p => addN (basN s) (negN (pmlN k p))⟩
def R0 : Fs := ⟨basN, pmlN, negN, addN, rdE, addE, smlB, fun l o n => sumB n fun i => intL l (o + i), hN, fun a b c => (a * b + c) % Sc.LN, fun a => decide (a < Sc.LN), hlvN, fun s k p => addN (basN s) (negN (pmlN k p))⟩
theorem R0_real : R0.Real := ⟨rfl, rfl, rfl, rfl, rfl, rfl, rfl, rfl, rfl, rfl⟩
theorem Tsm_bl (s : Nat) : Tsm (bl s) 0 32 32 [] := by
  refine ⟨rfl, Nat.le_refl _, by omega, by rw [bl_len]; omega, fun i hi => ?_⟩
  have hlt : 0 + i < (bl s).length := by rw [bl_len]; omega
  obtain ⟨x, hx, _⟩ := bl_byte s ((bl s)[0 + i]'hlt) (List.getElem_mem hlt)
  have e : (bl s)[0 + i]? = some (.int .u8 x) := by rw [List.getElem?_eq_getElem hlt, hx]
  unfold intL; rw [e]
theorem bl_flatR (s : Nat) : (bl s).all flatR = true := flatR_of (u8_flat fun v hv => by obtain ⟨x, hx, _⟩ := bl_byte s v hv; exact ⟨x, hx⟩)
theorem hlv_any (s : Nat) (w : World) (hw : Glo MA w) : Calls Tryd.prog 8 #[bv s] w fun e w' => e = .returned (.tuple #[bv (hlvN s).1, bv (hlvN s).2]) ∧ Below w.heap.size w w' := by
  have h1 : lowV s = bv (bnum (lowV s)) := lowV_B s
  have h2 : preV s = bv (bnum (preV s)) := preV_B s
  have run := hlv_run R0 s
  have := sfunG_calls (EF_ok R0_real) mixed MA_flat MA_in Tryd.func8 (by kernel_rfl) run (fun p hp => by
    simp only [List.mem_cons, List.not_mem_nil, or_false] at hp
    rcases hp with rfl | rfl
    · exact bl_flatR s
    · exact Tsm_bl s) (by simp [flat_bv]) (.inl (by kernel_rfl)) w hw
  refine this.mono ?_
  rintro e w' ⟨rfl, hb⟩
  refine ⟨?_, hb⟩
  show Ending.returned (.tuple #[lowV s, preV s]) = _
  unfold hlvN
  rw [← h1, ← h2]
def gHlvF (F : Fs) : List Value → Option (List Prop × Value)
  | [A] => some ([IsB A], .tuple #[bv (F.hlv (bnum A)).1, bv (F.hlv (bnum A)).2])
  | _ => none
theorem gHlv_ok {X : Cx} (hX : X.Ok Tryd.prog) (hc : coversG MA X.gl = true) : (X.var MA 8 (gHlvF R0)).Ok Tryd.prog := by
  refine gVar_ok hX MA_flat hc Tryd.func8 (by kernel_rfl) (by kernel_rfl) ?_
  intro args ps v ha hg hp
  unfold gHlvF at hg
  split at hg
  · rename_i A
    simp only [Option.some.injEq, Prod.mk.injEq] at hg
    obtain ⟨rfl, rfl⟩ := hg
    have hA : A = bv (bnum A) := hp _ (List.mem_singleton.2 rfl)
    refine ⟨.inl (by kernel_rfl), fun w hw => ?_⟩
    have h := hlv_any (bnum A) w hw
    rw [← hA] at h
    exact h
  · simp at hg
theorem dif_any (s k p : Nat) (hs : s < RN) (hk : k < RN) (hp : p < RN) (w : World) (hw : Glo MA w) : Calls Tryd.prog 15 #[bv s, bv k, bv p] w fun e w' => e = .returned (bv (R0.dif s k p)) ∧ Below w.heap.size w w' := by
  have run := dif_run R0 s k p
  have e1 : R0.pml = pmlN := rfl
  have e2 : R0.bas = basN := rfl
  have e3 : R0.neg = negN := rfl
  have e4 : R0.add = addN := rfl
  rw [e1, e2, e3, e4, bnum_bv' hk, bnum_bv' hp, bnum_bv' hs, bnum_bv' (pmlN_lt _ _), bnum_bv' (negN_lt _), bnum_bv' (basN_lt _)] at run
  exact sfunG_calls (EF_ok R0_real) mixed MA_flat MA_in Tryd.func15 (by kernel_rfl) run (fun q hq => by
    simp only [List.mem_cons, List.not_mem_nil, or_false] at hq
    rcases hq with rfl | rfl | rfl | rfl
    · exact ⟨isB_bv _, isB_bv _⟩
    · exact isB_bv _
    · exact isB_bv _
    · exact ⟨isB_bv _, isB_bv _⟩) (by simp [flat_bv]) (.inl (flat_bv _)) w hw
def gDifF (F : Fs) : List Value → Option (List Prop × Value)
  | [A, B, C] => some ([IsB A ∧ IsB B ∧ IsB C], bv (F.dif (bnum A) (bnum B) (bnum C)))
  | _ => none
theorem gDif_ok {X : Cx} (hX : X.Ok Tryd.prog) (hc : coversG MA X.gl = true) : (X.var MA 15 (gDifF R0)).Ok Tryd.prog := by
  refine gVar_ok hX MA_flat hc Tryd.func15 (by kernel_rfl) (by kernel_rfl) ?_
  intro args ps v ha hg hp
  unfold gDifF at hg
  split at hg
  · rename_i A B C
    simp only [Option.some.injEq, Prod.mk.injEq] at hg
    obtain ⟨rfl, rfl⟩ := hg
    obtain ⟨hA, hB, hC⟩ : IsB A ∧ IsB B ∧ IsB C := hp _ (List.mem_singleton.2 rfl)
    refine ⟨.inl (flat_bv _), fun w hw => ?_⟩
    have h := dif_any (bnum A) (bnum B) (bnum C) (bnum_lt hA) (bnum_lt hB) (bnum_lt hC) w hw
    rw [← (show A = bv (bnum A) from hA), ← (show B = bv (bnum B) from hB), ← (show C = bv (bnum C) from hC)] at h
    exact h
  · simp at hg
def EG (F : Fs) : Cx := ((EF F).var MA 8 (gHlvF F)).var MA 15 (gDifF F)
theorem EG_ok : (EG R0).Ok Tryd.prog := gDif_ok (gHlv_ok (EF_ok R0_real) MA_cov) MA_cov
theorem EG_gl (F : Fs) : (EG F).gl = glA := rfl
theorem pub_run (F : Fs) (s : Nat) : sfunG Tryd.prog (EG F) MA 60 Tryd.f7 (bodyOf Tryd.f7) [bv s] = some ([IsB (bv s), IsB (bv (F.hlv (bnum (bv s))).1)], bv (F.bas (bnum (bv (F.hlv (bnum (bv s))).1)))) := by kernel_rfl
def pubN (F : Fs) (s : Nat) : Nat := F.bas (F.hlv s).1
theorem hlv_lt (s : Nat) : (hlvN s).1 < RN ∧ (hlvN s).2 < RN := by
  have h1 := bnum_lt (lowV_B s)
  have h2 := bnum_lt (preV_B s)
  unfold hlvN
  exact ⟨h1, h2⟩
theorem R0_hlv : R0.hlv = hlvN := rfl
theorem R0_bas : R0.bas = basN := rfl
/-- All that is reckoned are numbers of 32 bytes. -/
structure Fs.Lt (F : Fs) : Prop where
  bas : ∀ n, F.bas n < RN
  hlv1 : ∀ s, (F.hlv s).1 < RN
  hlv2 : ∀ s, (F.hlv s).2 < RN
  hsh : ∀ y, F.hsh y < RN
  mu : ∀ a b c, F.mu a b c < RN
  dif : ∀ a b c, F.dif a b c < RN
theorem hN_lt (y : List Value) : hN y < Sc.LN := Nat.mod_lt _ (by decide)
theorem LN_RN {n : Nat} (h : n < Sc.LN) : n < RN := Nat.lt_trans h (by decide)
theorem R0_lt : R0.Lt := ⟨basN_lt, fun s => (hlv_lt s).1, fun s => (hlv_lt s).2, fun y => LN_RN (hN_lt y), fun a b c => LN_RN (Nat.mod_lt _ (by decide)), fun a b c => addN_lt _ _⟩
theorem pub_gen {F : Fs} (hX : (EG F).Ok Tryd.prog) (hL : F.Lt) (s : Nat) (hs : s < RN) (w : World) (hw : Glo MA w) : Calls Tryd.prog 7 #[bv s] w fun e w' => e = .returned (bv (pubN F s)) ∧ Below w.heap.size w w' := by
  have run := pub_run F s
  rw [bnum_bv' hs, bnum_bv' (hL.hlv1 s)] at run
  exact sfunG_calls hX mixed MA_flat MA_in Tryd.func7 (by kernel_rfl) run (fun q hq => by
    simp only [List.mem_cons, List.not_mem_nil, or_false] at hq
    rcases hq with rfl | rfl <;> exact isB_bv _) (by simp [flat_bv]) (.inl (flat_bv _)) w hw
theorem pub_any (s : Nat) (hs : s < RN) (w : World) (hw : Glo MA w) : Calls Tryd.prog 7 #[bv s] w fun e w' => e = .returned (bv (pubN R0 s)) ∧ Below w.heap.size w w' := pub_gen EG_ok R0_lt s hs w hw
def gPubF (F : Fs) : List Value → Option (List Prop × Value)
  | [A] => some ([IsB A], bv (pubN F (bnum A)))
  | _ => none
theorem gPub_ok {X : Cx} (hX : X.Ok Tryd.prog) (hc : coversG MA X.gl = true) : (X.var MA 7 (gPubF R0)).Ok Tryd.prog := by
  refine gVar_ok hX MA_flat hc Tryd.func7 (by kernel_rfl) (by kernel_rfl) ?_
  intro args ps v ha hg hp
  unfold gPubF at hg
  split at hg
  · rename_i A
    simp only [Option.some.injEq, Prod.mk.injEq] at hg
    obtain ⟨rfl, rfl⟩ := hg
    have hA : IsB A := hp _ (List.mem_singleton.2 rfl)
    refine ⟨.inl (flat_bv _), fun w hw => ?_⟩
    have h := pub_any (bnum A) (bnum_lt hA) w hw
    rw [← (show A = bv (bnum A) from hA)] at h
    exact h
  · simp at hg
/-- hashed, with a letter for what it reckons. -/
def gHshF (F : Fs) (v : Sv) (y : List Value) (args : List Value) (m : Mem) : Option (List Prop × Value) :=
  match args with
  | [.slice (some ⟨L, 0, none⟩) p c] => if gHas MA m && (getB MA L).isNone then
      match getB m L with
      | some B => if B.cells.length = p ∧ c = p ∧ p ≤ 1000 then
          match piecesOf v y m L B.cells with
          | some (ts, bs) => some (ts ++ [0 < bs.length ∧ bs.length ≤ 140737488355328], bv (F.hsh bs))
          | none => none
        else none
      | none => none
    else none
  | _ => none
theorem gHshF_eq (v : Sv) (y : List Value) : gHshF R0 v y = gHsh v y := by
  funext args m
  unfold gHshF gHsh
  rfl
def EH (F : Fs) (v : Sv) (y : List Value) : Cx := (EG F).read 9 (gHshF F v y)
theorem EH_ok {v : Sv} {y : List Value} (hy : MsgOK v y) : OkH (EH R0 v y) Tryd.prog (msgH v y) := by
  unfold EH
  rw [gHshF_eq]
  exact gHsh_ok EG_ok.h rfl hy
theorem EH_gl (F : Fs) (v : Sv) (y : List Value) : (EH F v y).gl = glA := rfl
/-- Values that no renaming changes. -/
def still (u : Value) : Bool := flat u || match u with
  | .tuple ⟨[.slice _ _ _]⟩ => true
  | _ => false
theorem still_tr (r r' : Ren) (u : Value) (h : still u = true) : tr r u = tr r' u := by
  unfold still at h
  simp only [Bool.or_eq_true] at h
  rcases h with h | h
  · rw [tr_flat r u h, tr_flat r' u h]
  · split at h
    · simp [tr, tr1]
    · cases h
theorem still_trL (r r' : Ren) : ∀ l : List Value, l.all still = true → trL (tr r) l = trL (tr r') l
  | [], _ => rfl
  | v :: l, h => by
    simp only [List.all_cons, Bool.and_eq_true] at h
    simp only [trL, still_tr r r' v h.1, still_trL r r' l h.2]
/-- The contract of a function that is handed the message. -/
def gMsg (g : List Value → Option (List Prop × Value)) (args : List Value) (m : Mem) : Option (List Prop × Value) := if gHas MA m && args.all still then g args else none
theorem gMsg_ok {X : Cx} {v : Sv} {y : List Value} (hX : OkH X Tryd.prog (msgH v y)) (hgl : X.gl = glA) {f : FuncId} {fn : Func} {c : Code} (hf : Tryd.prog.funcs[f]? = some fn) (hname : (fn.name == "runtime.NumGoroutine") = false) (hb : fn.body = some c) {g : List Value → Option (List Prop × Value)}
    (h : ∀ args ps u, g args = some (ps, u) → (∀ p ∈ ps, p) → flat u = true ∧ SWn (msgH v y) Tryd.prog glA c (sinit fn args, MA) fun e s => (e = .normal ∨ e = .ret) ∧ s.1.defers = [] ∧ ∃ z, sres Tryd.prog fn s = some z ∧ (flat z = true ∨ z = undef) ∧ (∀ i B, getB MA i = some B → getB s.2 i = some B) ∧ z = u) :
    OkH (X.read f (gMsg g)) Tryd.prog (msgH v y) := by
  refine OkH.read hX (fun r₀ w₀ hH args m ps u hg hp r w args' hr hfr he hglr ha => ?_) (fun args m q i B hi hg => ?_)
  · rw [hgl] at hglr
    unfold gMsg at hg
    split at hg
    · rename_i hall
      simp only [Bool.and_eq_true] at hall
      have hG : Glo MA w := hr.glo hall.1 MA_flat fun g hg => hglr g (coversG_get MA_cov hg)
      obtain ⟨h1, h2⟩ := h args ps u hg hp
      have ha' : trL (tr (glR MA)) args = some args' := by rw [still_trL (glR MA) r args hall.2]; exact ha
      have hgl' : ∀ g ∈ glA, glR MA g = some g := fun g hg => by
        have h1 : (getB MA g).isSome = true := List.all_eq_true.1 MA_in g hg
        obtain ⟨B, hB⟩ := Option.isSome_iff_exists.1 h1
        simp [glR, hB]
      refine call_enter hf hname hb ((calls_of_SWn (H := msgH v y) (gl := glA) (R := fun z => z = u) hf hb h2 (hG.rel MA_flat) ⟨rfl, hG, msg_now hH hfr hG⟩ hgl' ha').mono ?_)
      rintro e w' ⟨z, rfl, rfl, hbel⟩
      exact ⟨_, rfl, tr_flat r _ h1, hbel⟩
    · simp at hg
  · unfold gMsg at hg ⊢
    split at hg
    · rename_i hall
      simp only [Bool.and_eq_true] at hall
      rw [if_pos (by simp only [Bool.and_eq_true]; exact ⟨gHas_more hi hall.1, hall.2⟩)]; exact hg
    · simp at hg
end Go.Proofs.YtdegfgncdphepaaDoor.Edd
