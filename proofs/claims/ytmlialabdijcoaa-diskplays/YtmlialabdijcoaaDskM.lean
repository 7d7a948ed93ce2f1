/- DiskSynced: what the disk is, step by step. -/
import Derived.Test.YtmlialabdijcoaaDskL
namespace Go.Proofs.Ytmlialabdijcoaa
open Go Go.RowKit
set_option linter.unusedSimpArgs false
set_option linter.unusedVariables false
set_option maxRecDepth 100000

def ws (bs : List Int) (m : Nat) : List (Nat × List Int) := (List.range m).map (fun j => (j, fill (gi bs j)))
def wo (os : List Int) (m : Nat) : List (Nat × List Int) := (List.range m).map (fun j => (63 - j, fill (gi os j)))
theorem ws_succ (bs : List Int) (m : Nat) : ws bs (m + 1) = ws bs m ++ [(m, fill (gi bs m))] := by simp [ws, List.range_succ]
theorem wo_succ (os : List Int) (m : Nat) : wo os (m + 1) = wo os m ++ [(63 - m, fill (gi os m))] := by simp [wo, List.range_succ]
theorem ws_length (bs : List Int) (m : Nat) : (ws bs m).length = m := by simp [ws]
theorem wo_length (os : List Int) (m : Nat) : (wo os m).length = m := by simp [wo]
def s1 (bs : List Int) (k : Nat) : Dk := { dk0 64 with wt := ws bs (min k 64) }
def st2 (bs : List Int) : Nat → List Int := look (fun _ => z64) (ws bs (min bs.length 64))
def s3 (bs os : List Int) (k : Nat) : Dk := { dk0 64 with st := st2 bs, wt := wo os (min k 64) }
def st4 (bs os cs : List Int) : Nat → List Int := rsK (st2 bs) (wo os (min os.length 64)) cs (wo os (min os.length 64)).length
def s4 (bs os cs : List Int) : Dk := { dk0 64 with st := st4 bs os cs }
theorem s1_step (bs : List Int) {k : Nat} (h : k < 64) : wrE (s1 bs k) (k : Int) = 0 ∧ wrS (s1 bs k) (k : Int) (fill (gi bs k)) = s1 bs (k + 1) ∧ ((s1 bs k).wt.length + 1) * 72 ≤ 216000000000000 := by
  have hh : hasB 64 (k : Int) = true := by unfold hasB; simp; omega
  refine ⟨?_, ?_, ?_⟩
  · simp only [wrE, s1, dk0, hh]; rfl
  · simp only [wrS, s1, dk0, hh]
    rw [show min (k + 1) 64 = min k 64 + 1 by omega, ws_succ, show min k 64 = k by omega]
    rfl
  · show ((ws bs (min k 64)).length + 1) * 72 ≤ _
    rw [ws_length]; omega
theorem s1_stay (bs : List Int) {k : Nat} (h : ¬ k < 64) : s1 bs (k + 1) = s1 bs k := by unfold s1; rw [show min (k + 1) 64 = min k 64 by omega]
theorem s1_sync (bs : List Int) : syE (s1 bs bs.length) = 0 ∧ syS (s1 bs bs.length) = s3 bs [] 0 := ⟨rfl, rfl⟩
theorem s3_zero (bs os : List Int) : s3 bs [] 0 = s3 bs os 0 := rfl
theorem s3_step (bs os : List Int) {k : Nat} (h : k < 64) : wrS (s3 bs os k) (63 - (k : Int)) (fill (gi os k)) = s3 bs os (k + 1) ∧ ((s3 bs os k).wt.length + 1) * 72 ≤ 216000000000000 := by
  have hh : hasB 64 (63 - (k : Int)) = true := by unfold hasB; simp; omega
  refine ⟨?_, ?_⟩
  · simp only [wrS, s3, dk0, hh]
    rw [show min (k + 1) 64 = min k 64 + 1 by omega, wo_succ, show min k 64 = k by omega, show (63 - (k : Int)).toNat = 63 - k by omega]
    rfl
  · show ((wo os (min k 64)).length + 1) * 72 ≤ _
    rw [wo_length]; omega
theorem s3_stay (bs os : List Int) {k : Nat} (h : ¬ k < 64) : s3 bs os (k + 1) = s3 bs os k := by unfold s3; rw [show min (k + 1) 64 = min k 64 by omega]
theorem s3_rest (bs os cs : List Int) : rsS (s3 bs os os.length) cs = s4 bs os cs := rfl
theorem look_ws (st : Nat → List Int) (bs : List Int) (j : Nat) : ∀ m, look st (ws bs m) j = if j < m then fill (gi bs j) else st j
  | 0 => by simp [ws, look]
  | m + 1 => by
    rw [ws_succ, look_snoc]
    unfold upd
    by_cases e : j = m
    · subst e; rw [if_pos rfl, if_pos (by omega)]
    · rw [if_neg e, look_ws st bs j m]
      by_cases h : j < m
      · rw [if_pos h, if_pos (by omega)]
      · rw [if_neg h, if_neg (by omega)]
/-- What was synced. -/
def want (bs : List Int) (i : Nat) : List Int := if i < bs.length then fill (gi bs i) else z64
theorem st2_at (bs : List Int) {i : Nat} (h : i < 64) : st2 bs i = want bs i := by
  unfold st2 want
  rw [look_ws]
  by_cases e : i < bs.length
  · rw [if_pos (by omega), if_pos e]
  · rw [if_neg (by omega), if_neg e]
theorem want_length (bs : List Int) (i : Nat) : (want bs i).length = 64 := by unfold want; split; exact fill_length _; exact z64_length
theorem wo_get (os : List Int) {m k : Nat} (h : k < m) : (wo os m)[k]? = some (63 - k, fill (gi os k)) := by simp [wo, h]
theorem rsK_wo (st : Nat → List Int) (os cs : List Int) (m i : Nat) (hi : i < 64) (hm : m ≤ 64) : ∀ k, k ≤ m → rsK st (wo os m) cs k i = if 63 - i < k then tear (gi cs (63 - i)) (st i) (fill (gi os (63 - i))) else st i
  | 0, _ => by simp [rsK]
  | k + 1, hk => by
    rw [rsK_step (wo_get os (by omega))]
    unfold upd
    by_cases e : i = 63 - k
    · have e' : 63 - i = k := by omega
      rw [if_pos e, if_pos (by omega), ← e, rsK_wo st os cs m i hi hm k (by omega), if_neg (by omega), e']
    · rw [if_neg e, rsK_wo st os cs m i hi hm k (by omega)]
      by_cases h : 63 - i < k
      · rw [if_pos h, if_pos (by omega)]
      · rw [if_neg h, if_neg (by omega)]
theorem st4_at (bs os cs : List Int) {i : Nat} (h : i < 64) : st4 bs os cs i = if 63 - i < os.length then tear (gi cs (63 - i)) (want bs i) (fill (gi os (63 - i))) else want bs i := by
  unfold st4
  rw [wo_length, rsK_wo _ os cs _ i h (by omega) _ (Nat.le_refl _), st2_at bs h]
  by_cases e : 63 - i < os.length
  · rw [if_pos (by omega), if_pos e]
  · rw [if_neg (by omega), if_neg e]
theorem s4_read (bs os cs : List Int) {i : Nat} (h : i < 64) : rdE (s4 bs os cs) (i : Int) = 0 ∧ rdV (s4 bs os cs) (i : Int) = st4 bs os cs i := by
  have hh : hasB 64 (i : Int) = true := by unfold hasB; simp; omega
  constructor
  · simp only [rdE, s4, dk0, hh]
  · simp only [rdV, s4, dk0, hh]; simp [look]
theorem tear_length (c : Int) {o x : List Int} (ho : o.length = 64) (hx : x.length = 64) : (tear c o x).length = 64 := by
  unfold tear
  split
  · exact hx
  · split
    · simp [ho, hx]
    · split
      · simp [ho, hx]
      · exact ho
theorem tear_get (c : Int) {o x : List Int} (ho : o.length = 64) (hx : x.length = 64) (k : Nat) : gi (tear c o x) k = gi o k ∨ gi (tear c o x) k = gi x k := by
  have key : ∀ a b : List Int, a.length = 64 → b.length = 64 → gi (a.take 32 ++ b.drop 32) k = gi a k ∨ gi (a.take 32 ++ b.drop 32) k = gi b k := by
    intro a b ha hb
    unfold gi
    simp only [List.getD_eq_getElem?_getD, List.getElem?_append]
    have hl : (a.take 32).length = 32 := by simp [ha]
    rw [hl]
    by_cases h : k < 32
    · left; rw [if_pos h, List.getElem?_take, if_pos h]
    · right; rw [if_neg h, List.getElem?_drop]; congr 2; omega
  unfold tear
  split
  · exact .inr rfl
  · split
    · rcases key x o hx ho with h | h
      · exact .inr h
      · exact .inl h
    · split
      · exact key o x ho hx
      · exact .inl rfl
theorem st4_length (bs os cs : List Int) {i : Nat} (h : i < 64) : (st4 bs os cs i).length = 64 := by
  rw [st4_at bs os cs h]; split
  · exact tear_length _ (want_length _ _) (fill_length _)
  · exact want_length _ _
variable {X Y : Nat → Prop} {w0 w w' : World} {g : Nat} {s : Dk}
/-- A block that is none of the disk's is written. -/
theorem Ax.poke (h : Ax X w0 w g s) {b o : Nat} {vs : List Value} (hb : X b) : Ax X (w.setCells b o vs) (w.setCells b o vs) g s := by
  obtain ⟨F, h1, h2, h3⟩ := h
  refine ⟨F, h1.keep (by rw [size_setCells]; exact Nat.le_refl _) (fun c hc => heap_past b c (fun e => ?_) _ _ _), fun c hc => ⟨(h2 c hc).1, by rw [size_setCells]; exact (h2 c hc).2⟩, Kept.refl _ _⟩
  subst e; exact (h2 c hb).1 hc
theorem Ax.back {W : World} (h : Ax X W w' g s) (hY : ∀ c, Y c → X c) (hW : Kept Y w W) : Ax Y w w' g s := by
  obtain ⟨F, h1, h2, h3⟩ := h
  exact ⟨F, h1, fun c hc => h2 c (hY c hc), hW.trans ⟨h3.os, h3.tape, h3.output, h3.size, fun c hc => h3.same c (hY c hc)⟩⟩
end Go.Proofs.Ytmlialabdijcoaa
