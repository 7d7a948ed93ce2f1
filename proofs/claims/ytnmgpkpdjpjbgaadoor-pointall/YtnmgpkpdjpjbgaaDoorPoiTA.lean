/- The curve's reference: Neutral, Sum, Minus, Encode as contracts. -/
import Derived.Test.YtnmgpkpdjpjbgaaDoorPoiS
namespace Go.Proofs.YtnmgpkpdjpjbgaaDoor
open Go Go.RowKit
set_option linter.unusedSimpArgs false
set_option linter.unusedVariables false
/-- A point as a value: four numbers of four words. -/
def q16 (p : P4) : List Value := nl p.x ++ (nl p.y ++ (nl p.z ++ nl p.t))
def qv (p : P4) : Value := .agg (q16 p).toArray
def q4 : Value → P4
  | .agg cs => ⟨wsum (cs.toList.take 4), wsum ((cs.toList.drop 4).take 4), wsum ((cs.toList.drop 8).take 4), wsum ((cs.toList.drop 12).take 4)⟩
  | _ => ⟨0, 0, 0, 0⟩
theorem q4_qv {p : P4} (h : p.ok) : q4 (qv p) = p := by
  obtain ⟨x, y, z, t⟩ := p
  obtain ⟨h1, h2, h3, h4⟩ := h
  simp only at h1 h2 h3 h4
  have e : q4 (qv ⟨x, y, z, t⟩) = ⟨wsum (nl x), wsum (nl y), wsum (nl z), wsum (nl t)⟩ := rfl
  rw [e, wsum_nl h1, wsum_nl h2, wsum_nl h3, wsum_nl h4]
def IsQ (A : Value) : Prop := A = qv (q4 A) ∧ (q4 A).ok
theorem isQ_qv {p : P4} (h : p.ok) : IsQ (qv p) := by unfold IsQ; rw [q4_qv h]; exact ⟨rfl, h⟩
theorem flat_qv (p : P4) : flat (qv p) = true := rfl
def IW (A B : Value) : Prop := IsW A ∧ IsW B
theorem iw {a b : Nat} (ha : a < RN) (hb : b < RN) : IW (nv a) (nv b) := ⟨isW_nv ha, isW_nv hb⟩
theorem vWA {a b : Nat} (ha : a < RN) (hb : b < RN) : WA (nv a) (nv b) = nv (rfa a b) := by unfold WA; rw [wnum_nv ha, wnum_nv hb]
theorem vWS {a b : Nat} (ha : a < RN) (hb : b < RN) : WS (nv a) (nv b) = nv (rfs a b) := by unfold WS; rw [wnum_nv ha, wnum_nv hb]
theorem vWM {a b : Nat} (ha : a < RN) (hb : b < RN) : WM (nv a) (nv b) = nv (rfm a b) := by unfold WM; rw [wnum_nv ha, wnum_nv hb]
theorem vWI {a : Nat} (ha : a < RN) : WI (nv a) = nv (rfi a) := by unfold WI; rw [wnum_nv ha]
theorem vWL {a : Nat} (ha : a < RN) : WL (nv a) = nv (a % pp) := by unfold WL; rw [wnum_nv ha]
theorem dn_lt : DN' < RN := by decide
/-- Neutral. -/
theorem rneu_run : sfun Tryd.prog H0 60 Tryd.f68 (bodyOf Tryd.f68) [] = some ([], qv neuN) := by kernel_rfl
def gRneu : List Value → Option (List Prop × Value)
  | [] => some ([], qv neuN)
  | _ => none
theorem gRneu_ok {X : Cx} (hX : X.Ok Tryd.prog) : (X.pure 68 gRneu).Ok Tryd.prog := by
  refine gBody_ok hX Tryd.func68 (by kernel_rfl) (by kernel_rfl) ?_
  intro args ps v ha hg hp
  unfold gRneu at hg
  split at hg
  · simp only [Option.some.injEq, Prod.mk.injEq] at hg
    obtain ⟨rfl, rfl⟩ := hg
    exact ⟨.inl (flat_qv _), sfun_calls H0_ok mixed Tryd.func68 (by kernel_rfl) rneu_run (by simp) rfl (.inl (flat_qv _))⟩
  · simp at hg
/-- Sum. -/
def saV (p q : P4) : Value := WM (WS (nv p.y) (nv p.x)) (WS (nv q.y) (nv q.x))
def sbV (p q : P4) : Value := WM (WA (nv p.y) (nv p.x)) (WA (nv q.y) (nv q.x))
def scV (p q : P4) : Value := WM (WM (nv p.t) (nv q.t)) (WA (nv DN') (nv DN'))
def sdV (p q : P4) : Value := WM (WA (nv p.z) (nv p.z)) (nv q.z)
def quoW (E G H I : Value) : P4 := ⟨rfm (wnum E) (wnum G), rfm (wnum H) (wnum I), rfm (wnum G) (wnum H), rfm (wnum E) (wnum I)⟩
theorem rsum_run (p q : P4) : sfun Tryd.prog H0 60 Tryd.f38 (bodyOf Tryd.f38) [qv p, qv q] = some ([
    IW (nv p.y) (nv p.x), IW (nv q.y) (nv q.x), IW (WS (nv p.y) (nv p.x)) (WS (nv q.y) (nv q.x)),
    IW (nv p.y) (nv p.x), IW (nv q.y) (nv q.x), IW (WA (nv p.y) (nv p.x)) (WA (nv q.y) (nv q.x)),
    IW (nv p.t) (nv q.t), IW (nv DN') (nv DN'), IW (WM (nv p.t) (nv q.t)) (WA (nv DN') (nv DN')),
    IW (nv p.z) (nv p.z), IW (WA (nv p.z) (nv p.z)) (nv q.z),
    IW (sbV p q) (saV p q), IW (sdV p q) (scV p q), IW (sdV p q) (scV p q), IW (sbV p q) (saV p q),
    IW (WS (sbV p q) (saV p q)) (WS (sdV p q) (scV p q)), IW (WA (sdV p q) (scV p q)) (WA (sbV p q) (saV p q)), IW (WS (sdV p q) (scV p q)) (WA (sdV p q) (scV p q)), IW (WS (sbV p q) (saV p q)) (WA (sbV p q) (saV p q))],
    qv (quoW (WS (sbV p q) (saV p q)) (WS (sdV p q) (scV p q)) (WA (sdV p q) (scV p q)) (WA (sbV p q) (saV p q)))) := by kernel_rfl
def raN (p q : P4) : Nat := rfm (rfs p.y p.x) (rfs q.y q.x)
def rbN (p q : P4) : Nat := rfm (rfa p.y p.x) (rfa q.y q.x)
def rcN (p q : P4) : Nat := rfm (rfm p.t q.t) (rfa DN' DN')
def rdN (p q : P4) : Nat := rfm (rfa p.z p.z) q.z
def rsumN (p q : P4) : P4 :=
  ⟨rfm (rfs (rbN p q) (raN p q)) (rfs (rdN p q) (rcN p q)), rfm (rfa (rdN p q) (rcN p q)) (rfa (rbN p q) (raN p q)), rfm (rfs (rdN p q) (rcN p q)) (rfa (rdN p q) (rcN p q)), rfm (rfs (rbN p q) (raN p q)) (rfa (rbN p q) (raN p q))⟩
theorem raN_lt {p q : P4} (hp : p.ok) (hq : q.ok) : raN p q < RN := rfm_lt (rfs_lt _ hp.y) (rfs_lt _ hq.y)
theorem rbN_lt {p q : P4} (hp : p.ok) (hq : q.ok) : rbN p q < RN := rfm_lt (rfa_lt hp.y hp.x) (rfa_lt hq.y hq.x)
theorem rcN_lt {p q : P4} (hp : p.ok) (hq : q.ok) : rcN p q < RN := rfm_lt (rfm_lt hp.t hq.t) (rfa_lt dn_lt dn_lt)
theorem rdN_lt {p q : P4} (hp : p.ok) (hq : q.ok) : rdN p q < RN := rfm_lt (rfa_lt hp.z hp.z) hq.z
theorem rsumN_ok {p q : P4} (hp : p.ok) (hq : q.ok) : (rsumN p q).ok :=
  ⟨rfm_lt (rfs_lt _ (rbN_lt hp hq)) (rfs_lt _ (rdN_lt hp hq)), rfm_lt (rfa_lt (rdN_lt hp hq) (rcN_lt hp hq)) (rfa_lt (rbN_lt hp hq) (raN_lt hp hq)), rfm_lt (rfs_lt _ (rdN_lt hp hq)) (rfa_lt (rdN_lt hp hq) (rcN_lt hp hq)), rfm_lt (rfs_lt _ (rbN_lt hp hq)) (rfa_lt (rbN_lt hp hq) (raN_lt hp hq))⟩
theorem rsum_any (p q : P4) (hp : p.ok) (hq : q.ok) (w : World) : Calls Tryd.prog 38 #[qv p, qv q] w fun e w' => e = .returned (qv (rsumN p q)) ∧ Below w.heap.size w w' := by
  have run := rsum_run p q
  have la := raN_lt hp hq
  have lb := rbN_lt hp hq
  have lc := rcN_lt hp hq
  have ld := rdN_lt hp hq
  have ea : saV p q = nv (raN p q) := by unfold saV; rw [vWS hp.y hp.x, vWS hq.y hq.x, vWM (rfs_lt _ hp.y) (rfs_lt _ hq.y)]; rfl
  have eb : sbV p q = nv (rbN p q) := by unfold sbV; rw [vWA hp.y hp.x, vWA hq.y hq.x, vWM (rfa_lt hp.y hp.x) (rfa_lt hq.y hq.x)]; rfl
  have ec : scV p q = nv (rcN p q) := by unfold scV; rw [vWM hp.t hq.t, vWA dn_lt dn_lt, vWM (rfm_lt hp.t hq.t) (rfa_lt dn_lt dn_lt)]; rfl
  have ed : sdV p q = nv (rdN p q) := by unfold sdV; rw [vWA hp.z hp.z, vWM (rfa_lt hp.z hp.z) hq.z]; rfl
  rw [ea, eb, ec, ed, vWS lb la, vWS ld lc, vWA ld lc, vWA lb la, vWS hp.y hp.x, vWS hq.y hq.x, vWA hp.y hp.x, vWA hq.y hq.x, vWM hp.t hq.t, vWA dn_lt dn_lt, vWA hp.z hp.z] at run
  have lE : rfs (rbN p q) (raN p q) < RN := rfs_lt _ lb
  have lG : rfs (rdN p q) (rcN p q) < RN := rfs_lt _ ld
  have lH : rfa (rdN p q) (rcN p q) < RN := rfa_lt ld lc
  have lI : rfa (rbN p q) (raN p q) < RN := rfa_lt lb la
  have eq : quoW (nv (rfs (rbN p q) (raN p q))) (nv (rfs (rdN p q) (rcN p q))) (nv (rfa (rdN p q) (rcN p q))) (nv (rfa (rbN p q) (raN p q))) = rsumN p q := by
    unfold quoW; rw [wnum_nv lE, wnum_nv lG, wnum_nv lH, wnum_nv lI]; rfl
  rw [eq] at run
  exact sfun_calls H0_ok mixed Tryd.func38 (by kernel_rfl) run (al (iw hp.y hp.x) (al (iw hq.y hq.x) (al (iw (rfs_lt _ hp.y) (rfs_lt _ hq.y)) (al (iw hp.y hp.x) (al (iw hq.y hq.x) (al (iw (rfa_lt hp.y hp.x) (rfa_lt hq.y hq.x)) (al (iw hp.t hq.t) (al (iw dn_lt dn_lt) (al (iw (rfm_lt hp.t hq.t) (rfa_lt dn_lt dn_lt)) (al (iw hp.z hp.z) (al (iw (rfa_lt hp.z hp.z) hq.z) (al (iw lb la) (al (iw ld lc) (al (iw ld lc) (al (iw lb la) (al (iw lE lG) (al (iw lH lI) (al (iw lG lH) (al (iw lE lI) al0))))))))))))))))))) rfl (.inl (flat_qv _)) w
def gRsum : List Value → Option (List Prop × Value)
  | [A, B] => some ([IsQ A ∧ IsQ B], qv (rsumN (q4 A) (q4 B)))
  | _ => none
theorem gRsum_ok {X : Cx} (hX : X.Ok Tryd.prog) : (X.pure 38 gRsum).Ok Tryd.prog := by
  refine gBody_ok hX Tryd.func38 (by kernel_rfl) (by kernel_rfl) ?_
  intro args ps v ha hg hp
  unfold gRsum at hg
  split at hg
  · rename_i A B
    simp only [Option.some.injEq, Prod.mk.injEq] at hg
    obtain ⟨rfl, rfl⟩ := hg
    obtain ⟨⟨hA, lA⟩, ⟨hB, lB⟩⟩ := hp _ (List.mem_singleton.2 rfl)
    refine ⟨.inl (flat_qv _), fun w => ?_⟩
    have h := rsum_any (q4 A) (q4 B) lA lB w
    rw [← hA, ← hB] at h
    exact h
  · simp at hg
/-- Minus. -/
def rmirN (p : P4) : P4 := ⟨rfs 0 p.x, p.y, p.z, rfs 0 p.t⟩
theorem rmirN_ok {p : P4} (h : p.ok) : (rmirN p).ok := ⟨rfs_lt _ (by decide), h.y, h.z, rfs_lt _ (by decide)⟩
theorem rmir_run (p : P4) : sfun Tryd.prog H0 60 Tryd.f39 (bodyOf Tryd.f39) [qv p] = some ([IW (nv 0) (nv p.x), IW (nv 0) (nv p.t)], qv ⟨rfs (wnum (nv 0)) (wnum (nv p.x)), p.y, p.z, rfs (wnum (nv 0)) (wnum (nv p.t))⟩) := by kernel_rfl
def gRmir : List Value → Option (List Prop × Value)
  | [A] => some ([IsQ A], qv (rmirN (q4 A)))
  | _ => none
theorem gRmir_ok {X : Cx} (hX : X.Ok Tryd.prog) : (X.pure 39 gRmir).Ok Tryd.prog := by
  refine gBody_ok hX Tryd.func39 (by kernel_rfl) (by kernel_rfl) ?_
  intro args ps v ha hg hp
  unfold gRmir at hg
  split at hg
  · rename_i A
    simp only [Option.some.injEq, Prod.mk.injEq] at hg
    obtain ⟨rfl, rfl⟩ := hg
    obtain ⟨hA, lA⟩ := hp _ (List.mem_singleton.2 rfl)
    refine ⟨.inl (flat_qv _), fun w => ?_⟩
    have run := rmir_run (q4 A)
    rw [wnum_nv (n := 0) (by decide), wnum_nv lA.x, wnum_nv lA.t] at run
    have h := sfun_calls H0_ok mixed Tryd.func39 (by kernel_rfl) run (al (iw (by decide) lA.x) (al (iw (by decide) lA.t) al0)) rfl (.inl (flat_qv _)) w
    rw [← hA] at h
    exact h
  · simp at hg
/-- Encode. -/
def eiV (p : P4) : Value := WI (nv p.z)
def exN (p : P4) : Nat := rfm p.x (rfi p.z) % pp
def eyN (p : P4) : Nat := rfm p.y (rfi p.z) % pp
def exS (p : P4) : Nat := wnum (WM (nv p.x) (eiV p)) % pp
def eyS (p : P4) : Nat := wnum (WM (nv p.y) (eiV p)) % pp
def parQ (x : Nat) : Int := IntKind.u8.wrap (Int.tmod (lw x 0) 2)
def topQ (y x : Nat) : Value := .agg ((bl y).take 31 ++ [Value.int .u8 (bits .or .u8 (by8 y 31) (IntKind.u8.wrap (parQ x * 2 ^ 7)))]).toArray
theorem enc_run (p : P4) : sfun Tryd.prog H0 60 Tryd.f37 (bodyOf Tryd.f37) [qv p] = some ([IsW (nv p.z), IW (nv p.x) (eiV p), IsW (WM (nv p.x) (eiV p)), IW (nv p.y) (eiV p), IsW (WM (nv p.y) (eiV p))], topQ (eyS p) (exS p)) := by kernel_rfl
theorem parQ_eq (x : Nat) : parQ x = ((x % 2 : Nat) : Int) := by
  have h : Int.tmod (lw x 0) 2 = ((x % 2 : Nat) : Int) := by
    unfold lw
    rw [Nat.pow_zero, Nat.div_one]
    show ((x % 18446744073709551616 % 2 : Nat) : Int) = _
    congr 1
    omega
  have hx : x % 2 < 2 := Nat.mod_lt _ (by decide)
  unfold parQ
  rw [h]
  rcases (by omega : x % 2 = 0 ∨ x % 2 = 1) with e | e <;> rw [e] <;> rfl
theorem or_zero : ∀ y : Fin 256, bits .or .u8 ((y.val : Nat) : Int) 0 = ((y.val : Nat) : Int) := by decide +kernel
theorem topQ_eq (y x : Nat) (hy : y < TT) : topQ y x = bv (y + x % 2 * TT) := by
  have hx : x % 2 < 2 := Nat.mod_lt _ (by decide)
  unfold topQ
  rw [parQ_eq]
  rcases (by omega : x % 2 = 0 ∨ x % 2 = 1) with e | e
  · rw [e, Nat.zero_mul, Nat.add_zero]
    have hb : y / 256 ^ 31 % 256 < 256 := Nat.mod_lt _ (by decide)
    have o := or_zero ⟨y / 256 ^ 31 % 256, hb⟩
    have e2 : IntKind.u8.wrap (((0 : Nat) : Int) * 2 ^ 7) = 0 := by decide
    rw [e2]
    have o' : bits .or .u8 (by8 y 31) 0 = by8 y 31 := o
    rw [o', ← bl_split]
    rfl
  · rw [e, Nat.one_mul]
    have e2 : IntKind.u8.wrap (((1 : Nat) : Int) * 2 ^ 7) = 128 := by decide
    rw [e2]
    exact topV_eq y hy
def wqN (p : P4) : Nat := eyN p + exN p % 2 * TT
theorem wqN_lt (p : P4) : wqN p < RN := by
  have h1 : eyN p < TT := Nat.lt_trans (Nat.mod_lt _ (by decide)) pp_lt_TT
  have h3 : RN = TT + TT := by decide
  unfold wqN
  rcases (by omega : exN p % 2 = 0 ∨ exN p % 2 = 1) with h | h <;> rw [h] <;> omega
def gRenc : List Value → Option (List Prop × Value)
  | [A] => some ([IsQ A], bv (wqN (q4 A)))
  | _ => none
theorem gRenc_ok {X : Cx} (hX : X.Ok Tryd.prog) : (X.pure 37 gRenc).Ok Tryd.prog := by
  refine gBody_ok hX Tryd.func37 (by kernel_rfl) (by kernel_rfl) ?_
  intro args ps v ha hg hp
  unfold gRenc at hg
  split at hg
  · rename_i A
    simp only [Option.some.injEq, Prod.mk.injEq] at hg
    obtain ⟨rfl, rfl⟩ := hg
    obtain ⟨hA, lA⟩ := hp _ (List.mem_singleton.2 rfl)
    refine ⟨.inl (flat_bv _), fun w => ?_⟩
    have run := enc_run (q4 A)
    have lz := rfi_lt lA.z
    have e1 : eiV (q4 A) = nv (rfi (q4 A).z) := vWI lA.z
    have e2 : exS (q4 A) = exN (q4 A) := by unfold exS exN; rw [e1, vWM lA.x lz, wnum_nv (rfm_lt lA.x lz)]
    have e3 : eyS (q4 A) = eyN (q4 A) := by unfold eyS eyN; rw [e1, vWM lA.y lz, wnum_nv (rfm_lt lA.y lz)]
    have ly : eyN (q4 A) < TT := Nat.lt_trans (Nat.mod_lt _ (by decide)) pp_lt_TT
    rw [e2, e3, e1, vWM lA.x lz, vWM lA.y lz, topQ_eq _ _ ly] at run
    have h := sfun_calls H0_ok mixed Tryd.func37 (by kernel_rfl) run (al (isW_nv lA.z) (al (iw lA.x lz) (al (isW_nv (rfm_lt lA.x lz)) (al (iw lA.y lz) (al (isW_nv (rfm_lt lA.y lz)) al0))))) rfl (.inl (flat_bv _)) w
    rw [← hA] at h
    exact h
  · simp at hg
def H1 : Cx := (((H0.pure 68 gRneu).pure 38 gRsum).pure 39 gRmir).pure 37 gRenc
theorem H1_ok : H1.Ok Tryd.prog := gRenc_ok (gRmir_ok (gRsum_ok (gRneu_ok H0_ok)))
theorem sum_same (d x1 y1 z1 t1 x2 y2 z2 t2 : KK) : (⟨((y1 + x1) * (y2 + x2) - (y1 - x1) * (y2 - x2)) * ((z1 + z1) * z2 - t1 * t2 * (d + d)), ((z1 + z1) * z2 + t1 * t2 * (d + d)) * ((y1 + x1) * (y2 + x2) + (y1 - x1) * (y2 - x2)), ((z1 + z1) * z2 - t1 * t2 * (d + d)) * ((z1 + z1) * z2 + t1 * t2 * (d + d)), ((y1 + x1) * (y2 + x2) - (y1 - x1) * (y2 - x2)) * ((y1 + x1) * (y2 + x2) + (y1 - x1) * (y2 - x2))⟩ : E4 KK) = sumE d ⟨x1, y1, z1, t1⟩ ⟨x2, y2, z2, t2⟩ := by
  unfold sumE quoE
  simp only [E4.mk.injEq]
  refine ⟨?_, ?_, ?_, ?_⟩ <;> grind
/-- In the group. -/
theorem rep_rsum {a b : P4} {p q : PT} (la : a.ok) (lb : b.ok) (ha : Rep (cP a) p) (hb : Rep (cP b) q) : Rep (cP (rsumN a b)) (padd p q) := by
  have h := rep_sum FK ha hb
  have l1 := raN_lt la lb
  have l2 := rbN_lt la lb
  have l3 := rcN_lt la lb
  have l4 := rdN_lt la lb
  have k1 : cK (raN a b) = (cK a.y - cK a.x) * (cK b.y - cK b.x) := by unfold raN; rw [cK_rfm (rfs_lt _ la.y) (rfs_lt _ lb.y), cK_rfs _ la.y, cK_rfs _ lb.y]
  have k2 : cK (rbN a b) = (cK a.y + cK a.x) * (cK b.y + cK b.x) := by unfold rbN; rw [cK_rfm (rfa_lt la.y la.x) (rfa_lt lb.y lb.x), cK_rfa la.y la.x, cK_rfa lb.y lb.x]
  have k3 : cK (rcN a b) = (cK a.t * cK b.t) * (DK + DK) := by unfold rcN; rw [cK_rfm (rfm_lt la.t lb.t) (rfa_lt dn_lt dn_lt), cK_rfm la.t lb.t, cK_rfa dn_lt dn_lt]; rfl
  have k4 : cK (rdN a b) = (cK a.z + cK a.z) * cK b.z := by unfold rdN; rw [cK_rfm (rfa_lt la.z la.z) lb.z, cK_rfa la.z la.z]
  have e : cP (rsumN a b) = sumE DK (cP a) (cP b) := by
    unfold cP rsumN
    simp only
    rw [cK_rfm (rfs_lt _ l2) (rfs_lt _ l4), cK_rfm (rfa_lt l4 l3) (rfa_lt l2 l1), cK_rfm (rfs_lt _ l4) (rfa_lt l4 l3), cK_rfm (rfs_lt _ l2) (rfa_lt l2 l1), cK_rfs _ l2, cK_rfs _ l4, cK_rfa l4 l3, cK_rfa l2 l1, k1, k2, k3, k4]
    exact sum_same DK (cK a.x) (cK a.y) (cK a.z) (cK a.t) (cK b.x) (cK b.y) (cK b.z) (cK b.t)
  rw [e]; exact h
theorem rep_rmir {a : P4} {p : PT} (ha : Rep (cP a) p) : Rep (cP (rmirN a)) p.neg := by
  have e : cP (rmirN a) = mirE (cP a) := by
    unfold rmirN mirE cP
    simp only
    rw [cK_rfs _ (show 0 < RN by decide), cK_rfs _ (show 0 < RN by decide), cK_zero]
  rw [e]; exact rep_mir ha
theorem wq_enc {a : P4} {p : PT} (la : a.ok) (h : Rep (cP a) p) : wqN a = enc p := by
  obtain ⟨h1, h2, h3, _⟩ := h
  have hz : cK a.z ≠ 0 := h1
  have iv := FK.inv _ hz
  have hx : cK a.x = p.x * cK a.z := h2
  have hy : cK a.y = p.y * cK a.z := h3
  have lz := rfi_lt la.z
  have kx : cK (exN a) = p.x := by
    unfold exN; rw [cK_mod, cK_rfm la.x lz, cK_rfi la.z, hx]
    have := kmul_assoc p.x (cK a.z) (invK (cK a.z))
    rw [this, iv, kmul_one]
  have ky : cK (eyN a) = p.y := by
    unfold eyN; rw [cK_mod, cK_rfm la.y lz, cK_rfi la.z, hy]
    have := kmul_assoc p.y (cK a.z) (invK (cK a.z))
    rw [this, iv, kmul_one]
  unfold wqN enc
  rw [← val_of (Nat.mod_lt _ (by decide)) kx, ← val_of (Nat.mod_lt _ (by decide)) ky]
  rfl
end Go.Proofs.YtnmgpkpdjpjbgaaDoor
