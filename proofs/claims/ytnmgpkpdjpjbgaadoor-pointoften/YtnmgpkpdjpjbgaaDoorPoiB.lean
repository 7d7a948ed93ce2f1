/- Package point: at, neutral, generator, mirror, quotients, sum, double, sixteenfold. -/
import Derived.Test.YtnmgpkpdjpjbgaaDoorFieQ
import Derived.Test.YtnmgpkpdjpjbgaaDoorPoiA
namespace Go.Proofs.YtnmgpkpdjpjbgaaDoor
open Go Go.RowKit
set_option linter.unusedSimpArgs false
set_option linter.unusedVariables false
theorem gAdF_ok {X : Cx} (hX : X.Ok Tryd.prog) : (X.pure 52 gAdF).Ok Tryd.prog := by
  refine gBody_ok hX Tryd.func52 (by kernel_rfl) (by kernel_rfl) ?_
  intro args ps v ha hg hp
  unfold gAdF at hg
  split at hg
  · rename_i A B
    simp only [Option.some.injEq, Prod.mk.injEq] at hg
    obtain ⟨rfl, rfl⟩ := hg
    obtain ⟨hA, hB⟩ := hp _ (List.mem_singleton.2 rfl)
    refine ⟨.inl (flat_bv _), fun w => ?_⟩
    have h := Add_any (bnum A) (bnum B) (bnum_lt hA) (bnum_lt hB) w
    rw [← (show A = bv (bnum A) from hA), ← (show B = bv (bnum B) from hB)] at h
    exact h
  · simp at hg
theorem gSbF_ok {X : Cx} (hX : X.Ok Tryd.prog) : (X.pure 48 gSbF).Ok Tryd.prog := by
  refine gBody_ok hX Tryd.func48 (by kernel_rfl) (by kernel_rfl) ?_
  intro args ps v ha hg hp
  unfold gSbF at hg
  split at hg
  · rename_i A B
    simp only [Option.some.injEq, Prod.mk.injEq] at hg
    obtain ⟨rfl, rfl⟩ := hg
    obtain ⟨hA, hB⟩ := hp _ (List.mem_singleton.2 rfl)
    refine ⟨.inl (flat_bv _), fun w => ?_⟩
    have h := Sub_any (bnum A) (bnum B) (bnum_lt hA) (bnum_lt hB) w
    rw [← (show A = bv (bnum A) from hA), ← (show B = bv (bnum B) from hB)] at h
    exact h
  · simp at hg
theorem gMlF_ok {X : Cx} (hX : X.Ok Tryd.prog) : (X.pure 51 gMlF).Ok Tryd.prog := by
  refine gBody_ok hX Tryd.func51 (by kernel_rfl) (by kernel_rfl) ?_
  intro args ps v ha hg hp
  unfold gMlF at hg
  split at hg
  · rename_i A B
    simp only [Option.some.injEq, Prod.mk.injEq] at hg
    obtain ⟨rfl, rfl⟩ := hg
    obtain ⟨hA, hB⟩ := hp _ (List.mem_singleton.2 rfl)
    refine ⟨.inl (flat_bv _), fun w => ?_⟩
    have h := Mul_any (bnum A) (bnum B) (bnum_lt hA) (bnum_lt hB) w
    rw [← (show A = bv (bnum A) from hA), ← (show B = bv (bnum B) from hB)] at h
    exact h
  · simp at hg
theorem gIvF_ok {X : Cx} (hX : X.Ok Tryd.prog) : (X.pure 50 gIvF).Ok Tryd.prog := by
  refine gBody_ok hX Tryd.func50 (by kernel_rfl) (by kernel_rfl) ?_
  intro args ps v ha hg hp
  unfold gIvF at hg
  split at hg
  · rename_i A
    simp only [Option.some.injEq, Prod.mk.injEq] at hg
    obtain ⟨rfl, rfl⟩ := hg
    have hA := hp _ (List.mem_singleton.2 rfl)
    refine ⟨.inl (flat_bv _), fun w => ?_⟩
    have h := Inv_any (bnum A) (bnum_lt hA) w
    rw [← (show A = bv (bnum A) from hA)] at h
    exact h
  · simp at hg
theorem gCaF_ok {X : Cx} (hX : X.Ok Tryd.prog) : (X.pure 45 gCaF).Ok Tryd.prog := by
  refine gBody_ok hX Tryd.func45 (by kernel_rfl) (by kernel_rfl) ?_
  intro args ps v ha hg hp
  unfold gCaF at hg
  split at hg
  · rename_i A
    simp only [Option.some.injEq, Prod.mk.injEq] at hg
    obtain ⟨rfl, rfl⟩ := hg
    have hA := hp _ (List.mem_singleton.2 rfl)
    refine ⟨.inl rfl, fun w => ?_⟩
    have h := Canonical_any (bnum A) (bnum_lt hA) w
    rw [← (show A = bv (bnum A) from hA)] at h
    exact h
  · simp at hg
theorem F0_ok : F0.Ok Tryd.prog := gCaF_ok (gIvF_ok (gMlF_ok (gSbF_ok (gAdF_ok (Cx.glo_ok Cx.none_ok (fun g h => (by cases h)))))))
/-- Points' sums as numbers. -/
def quoN (x xu y yu : Nat) : P4 := ⟨fml x yu, fml y xu, fml xu yu, fml x y⟩
theorem quoN_ok (x xu y yu : Nat) : (quoN x xu y yu).ok := ⟨lt_RN (fml_lt _ _), lt_RN (fml_lt _ _), lt_RN (fml_lt _ _), lt_RN (fml_lt _ _)⟩
def sumN (a b : P4) : P4 :=
  let less := fml (fsb a.y a.x) (fsb b.y b.x)
  let more := fml (fad a.y a.x) (fad b.y b.x)
  let turn := fml DN' (fml a.t b.t)
  let both := fml a.z b.z
  quoN (fsb more less) (fad (fad both both) (fad turn turn)) (fad more less) (fsb (fad both both) (fad turn turn))
theorem sumN_ok (a b : P4) : (sumN a b).ok := quoN_ok _ _ _ _
def dblN (a : P4) : P4 :=
  let below := fsb (fml a.y a.y) (fml a.x a.x)
  quoN (fad (fml a.x a.y) (fml a.x a.y)) below (fad (fml a.y a.y) (fml a.x a.x)) (fsb (fad (fml a.z a.z) (fml a.z a.z)) below)
theorem dblN_ok (a : P4) : (dblN a).ok := quoN_ok _ _ _ _
def neuN : P4 := ⟨0, 1, 1, 0⟩
theorem neuN_ok : neuN.ok := ⟨by decide, by decide, by decide, by decide⟩
def atN (x y : Nat) : P4 := ⟨x, y, 1, fml x y⟩
theorem atN_ok {x y : Nat} (hx : x < RN) (hy : y < RN) : (atN x y).ok := ⟨hx, hy, (show (1 : Nat) < RN by decide), lt_RN (fml_lt _ _)⟩
def mirN (p : P4) : P4 := ⟨fsb 0 p.x, p.y, p.z, fsb 0 p.t⟩
theorem mirN_ok {p : P4} (h : p.ok) : (mirN p).ok := ⟨lt_RN (fsb_lt _ _), h.y, h.z, lt_RN (fsb_lt _ _)⟩
def genN : P4 := atN GX GY
/-- at -/
theorem at_run (x y : Nat) : sfunG Tryd.prog F0 M0 60 Tryd.f49 (bodyOf Tryd.f49) [bv x, bv y] = some ([IsB (bv x) ∧ IsB (bv y)], pv ⟨x, y, 1, fml (bnum (bv x)) (bnum (bv y))⟩) := by kernel_rfl
def gAt : List Value → Option (List Prop × Value)
  | [A, B] => some ([IsB A ∧ IsB B], pv (atN (bnum A) (bnum B)))
  | _ => none
theorem gAt_ok {X : Cx} (hX : X.Ok Tryd.prog) (hc : coversG M0 X.gl = true) : (X.var M0 49 gAt).Ok Tryd.prog := by
  refine gVar_ok hX M0_flat hc Tryd.func49 (by kernel_rfl) (by kernel_rfl) ?_
  intro args ps v ha hg hp
  unfold gAt at hg
  split at hg
  · rename_i A B
    simp only [Option.some.injEq, Prod.mk.injEq] at hg
    obtain ⟨rfl, rfl⟩ := hg
    obtain ⟨hA, hB⟩ := hp _ (List.mem_singleton.2 rfl)
    refine ⟨.inl (flat_pv _), fun w hw => ?_⟩
    have run := at_run (bnum A) (bnum B)
    rw [bnum_bv' (bnum_lt hA), bnum_bv' (bnum_lt hB)] at run
    have h := sfunG_calls F0_ok mixed M0_flat (by kernel_rfl) Tryd.func49 (by kernel_rfl) run (by
      intro p hp
      simp only [List.mem_cons, List.not_mem_nil, or_false] at hp
      rcases hp with rfl
      exact ⟨isB_bv _, isB_bv _⟩) (by simp [flat_bv]) (.inl (flat_pv _)) w hw
    rw [← (show A = bv (bnum A) from hA), ← (show B = bv (bnum B) from hB)] at h
    exact h
  · simp at hg
/-- neutral -/
theorem neu_run : sfunG Tryd.prog F0 M0 60 Tryd.f55 (bodyOf Tryd.f55) [] = some ([], pv neuN) := by kernel_rfl
def gNeu : List Value → Option (List Prop × Value)
  | [] => some ([], pv neuN)
  | _ => none
theorem gNeu_ok {X : Cx} (hX : X.Ok Tryd.prog) (hc : coversG M0 X.gl = true) : (X.var M0 55 gNeu).Ok Tryd.prog := by
  refine gVar_ok hX M0_flat hc Tryd.func55 (by kernel_rfl) (by kernel_rfl) ?_
  intro args ps v ha hg hp
  unfold gNeu at hg
  split at hg
  · simp only [Option.some.injEq, Prod.mk.injEq] at hg
    obtain ⟨rfl, rfl⟩ := hg
    exact ⟨.inl (flat_pv _), fun w hw => sfunG_calls F0_ok mixed M0_flat (by kernel_rfl) Tryd.func55 (by kernel_rfl) neu_run (by simp) rfl (.inl (flat_pv _)) w hw⟩
  · simp at hg
/-- mirror -/
theorem mir_run (p : P4) : sfunG Tryd.prog F0 M0 60 Tryd.f33 (bodyOf Tryd.f33) [pv p] = some ([IsB (bv 0) ∧ IsB (bv p.x), IsB (bv 0) ∧ IsB (bv p.t)], pv ⟨fsb (bnum (bv 0)) (bnum (bv p.x)), p.y, p.z, fsb (bnum (bv 0)) (bnum (bv p.t))⟩) := by kernel_rfl
def gMir : List Value → Option (List Prop × Value)
  | [A] => some ([IsP A], pv (mirN (p4 A)))
  | _ => none
theorem gMir_ok {X : Cx} (hX : X.Ok Tryd.prog) (hc : coversG M0 X.gl = true) : (X.var M0 33 gMir).Ok Tryd.prog := by
  refine gVar_ok hX M0_flat hc Tryd.func33 (by kernel_rfl) (by kernel_rfl) ?_
  intro args ps v ha hg hp
  unfold gMir at hg
  split at hg
  · rename_i A
    simp only [Option.some.injEq, Prod.mk.injEq] at hg
    obtain ⟨rfl, rfl⟩ := hg
    obtain ⟨hA, lA⟩ := hp _ (List.mem_singleton.2 rfl)
    refine ⟨.inl (flat_pv _), fun w hw => ?_⟩
    have run := mir_run (p4 A)
    rw [bnum_bv' (n := 0) (by decide), bnum_bv' lA.x, bnum_bv' lA.t] at run
    have h := sfunG_calls F0_ok mixed M0_flat (by kernel_rfl) Tryd.func33 (by kernel_rfl) run (by
      intro p hp
      simp only [List.mem_cons, List.not_mem_nil, or_false] at hp
      rcases hp with rfl | rfl <;> exact ⟨isB_bv _, isB_bv _⟩) (by simp [flat_pv]) (.inl (flat_pv _)) w hw
    rw [← hA] at h
    exact h
  · simp at hg
/-- quotients -/
theorem quo_run (x xu y yu : Nat) : sfunG Tryd.prog F0 M0 60 Tryd.f53 (bodyOf Tryd.f53) [bv x, bv xu, bv y, bv yu] = some ([IsB (bv x) ∧ IsB (bv yu), IsB (bv y) ∧ IsB (bv xu), IsB (bv xu) ∧ IsB (bv yu), IsB (bv x) ∧ IsB (bv y)], pv (quoN (bnum (bv x)) (bnum (bv xu)) (bnum (bv y)) (bnum (bv yu)))) := by kernel_rfl
def gQuo : List Value → Option (List Prop × Value)
  | [A, B, C, D] => some ([IsB A ∧ IsB B ∧ IsB C ∧ IsB D], pv (quoN (bnum A) (bnum B) (bnum C) (bnum D)))
  | _ => none
theorem gQuo_ok {X : Cx} (hX : X.Ok Tryd.prog) (hc : coversG M0 X.gl = true) : (X.var M0 53 gQuo).Ok Tryd.prog := by
  refine gVar_ok hX M0_flat hc Tryd.func53 (by kernel_rfl) (by kernel_rfl) ?_
  intro args ps v ha hg hp
  unfold gQuo at hg
  split at hg
  · rename_i A B C D
    simp only [Option.some.injEq, Prod.mk.injEq] at hg
    obtain ⟨rfl, rfl⟩ := hg
    obtain ⟨hA, hB, hC, hD⟩ := hp _ (List.mem_singleton.2 rfl)
    refine ⟨.inl (flat_pv _), fun w hw => ?_⟩
    have run := quo_run (bnum A) (bnum B) (bnum C) (bnum D)
    rw [bnum_bv' (bnum_lt hA), bnum_bv' (bnum_lt hB), bnum_bv' (bnum_lt hC), bnum_bv' (bnum_lt hD)] at run
    have h := sfunG_calls F0_ok mixed M0_flat (by kernel_rfl) Tryd.func53 (by kernel_rfl) run (by
      intro p hp
      simp only [List.mem_cons, List.not_mem_nil, or_false] at hp
      rcases hp with rfl | rfl | rfl | rfl <;> exact ⟨isB_bv _, isB_bv _⟩) (by simp [flat_bv]) (.inl (flat_pv _)) w hw
    rw [← (show A = bv (bnum A) from hA), ← (show B = bv (bnum B) from hB), ← (show C = bv (bnum C) from hC), ← (show D = bv (bnum D) from hD)] at h
    exact h
  · simp at hg
def F1 : Cx := (((F0.var M0 49 gAt).var M0 55 gNeu).var M0 33 gMir).var M0 53 gQuo
theorem F1_ok : F1.Ok Tryd.prog := gQuo_ok (gMir_ok (gNeu_ok (gAt_ok F0_ok (by kernel_rfl)) (by kernel_rfl)) (by kernel_rfl)) (by kernel_rfl)
/-- sum -/
def lessV (a b : P4) : Value := ML (SB (bv a.y) (bv a.x)) (SB (bv b.y) (bv b.x))
def moreV (a b : P4) : Value := ML (AD (bv a.y) (bv a.x)) (AD (bv b.y) (bv b.x))
def turnV (a b : P4) : Value := ML (bv DN') (ML (bv a.t) (bv b.t))
def bothV (a b : P4) : Value := ML (bv a.z) (bv b.z)
def turn2V (a b : P4) : Value := AD (turnV a b) (turnV a b)
def both2V (a b : P4) : Value := AD (bothV a b) (bothV a b)
def IB (A B : Value) : Prop := IsB A ∧ IsB B
theorem sum_run (a b : P4) : sfunG Tryd.prog F1 M0 60 Tryd.f32 (bodyOf Tryd.f32) [pv a, pv b] = some ([
    IB (bv a.y) (bv a.x), IB (bv b.y) (bv b.x), IB (SB (bv a.y) (bv a.x)) (SB (bv b.y) (bv b.x)),
    IB (bv a.y) (bv a.x), IB (bv b.y) (bv b.x), IB (AD (bv a.y) (bv a.x)) (AD (bv b.y) (bv b.x)),
    IB (bv a.t) (bv b.t), IB (bv DN') (ML (bv a.t) (bv b.t)), IB (turnV a b) (turnV a b),
    IB (bv a.z) (bv b.z), IB (bothV a b) (bothV a b),
    IB (moreV a b) (lessV a b), IB (both2V a b) (turn2V a b), IB (moreV a b) (lessV a b), IB (both2V a b) (turn2V a b),
    IsB (SB (moreV a b) (lessV a b)) ∧ IsB (AD (both2V a b) (turn2V a b)) ∧ IsB (AD (moreV a b) (lessV a b)) ∧ IsB (SB (both2V a b) (turn2V a b))],
    pv (quoN (bnum (SB (moreV a b) (lessV a b))) (bnum (AD (both2V a b) (turn2V a b))) (bnum (AD (moreV a b) (lessV a b))) (bnum (SB (both2V a b) (turn2V a b))))) := by kernel_rfl
end Go.Proofs.YtnmgpkpdjpjbgaaDoor
