/- Write. -/
import Derived.Test.YtphjjjijdbljaaaDoorDskA
import Derived.Test.YtphjjjijdbljaaaDoorRgnT
import Derived.Great.BuildSlice
import Derived.Maps.AppendAt
namespace Go.Proofs.YtphjjjijdbljaaaDoor
open Go Go.RowKit
set_option linter.unusedSimpArgs false
set_option linter.unusedVariables false

def Dk.lost (s : Dk) : Bool := s.dn || (s.fz == some 0)
def Dk.burn (s : Dk) : Dk := match s.dn, s.fz with
  | true, _ => s
  | false, none => s
  | false, some 0 => { s with dn := true }
  | false, some (k + 1) => { s with fz := some k }
theorem operates_PX {F : Nat → Prop} {w : World} {g : Nat} {s : Dk} {gs : Nat} {wv : Value} {fd : Bool} {fz : Int} (h : PX F w g s gs wv fd fz) :
    Calls Tryd.prog 38 #[.pointer (some ⟨g, 0, none⟩)] w fun e w' => e = .returned (.bool (!s.lost)) ∧ (∃ fd' fz', PX F w' g s.burn gs wv fd' fz') ∧ Chg (fun b => b = g) w w' ∧ w'.heap.size = w.heap.size := by
  have hz : fd = true → 0 ≤ fz ∧ fz ≤ 9223372036854775807 := by
    intro e
    have := h.fz
    unfold fzP at this
    split at this
    · rw [e] at this; cases this
    · omega
  refine (operates_any h.db hz).mono ?_
  rintro e w' ⟨rfl, h1, h2, h3⟩
  have hk : ∀ b, b ≠ g → b < w.heap.size → w'.heap[b]? = w.heap[b]? := fun b hb hl => h2.other b hl hb
  have key : opA s.dn fd fz = !s.lost ∧ s.burn.n = s.n ∧ s.burn.st = s.st ∧ s.burn.wt = s.wt ∧ s.burn.fu = s.fu ∧ s.burn.dn = opD s.dn fd fz ∧ fzP s.burn.fz fd (opF s.dn fd fz) := by
    obtain ⟨n, st, wt, fu, dn, f⟩ := s
    have hf := h.fz
    simp only [fzP] at hf
    cases dn
    · match f with
      | none => simp only at hf; subst hf; exact ⟨rfl, rfl, rfl, rfl, rfl, rfl, rfl⟩
      | some 0 => obtain ⟨rfl, rfl, -⟩ := hf; exact ⟨rfl, rfl, rfl, rfl, rfl, rfl, rfl, rfl, by omega⟩
      | some (k + 1) =>
        obtain ⟨rfl, rfl, hk⟩ := hf
        have hn : ¬ ((k : Int) + 1 = 0) := by omega
        refine ⟨?_, rfl, rfl, rfl, rfl, ?_, rfl, ?_, by omega⟩
        · simp [opA, Dk.lost, hn]
        · simp [opD, Dk.burn, hn]
        · simp [opF, hn]
    · match f with
      | none => simp only at hf; subst hf; exact ⟨rfl, rfl, rfl, rfl, rfl, rfl, rfl⟩
      | some k => obtain ⟨rfl, rfl, hk⟩ := hf; exact ⟨rfl, rfl, rfl, rfl, rfl, rfl, rfl, rfl, hk⟩
  obtain ⟨k1, k2, k3, k4, k5, k6, k7⟩ := key
  refine ⟨by rw [k1], ⟨fd, opF s.dn fd fz, ⟨?_, k7, ?_, ?_, h.ggs, h.wg, h.wgs, h.Fg, h.Fgs, h.Fw, fun b hb => by rw [h3]; exact h.Flt b hb, by rw [k2]; exact h.n1, by rw [k2]; exact h.n2⟩⟩, h2, h3⟩
  · rw [k2, k5, k6]; exact h1
  · rw [k2, k3]; exact h.sb.keep (hk _ (Ne.symm h.ggs) h.sb.lt)
  · rw [k2, k4]; exact h.wb.keep (fun b hb => hk _ (fun e => h.wg (by rw [hb, e])) (h.wb.lt hb))
theorem list32 {l : List Int} (h : l.length = 32) : ∃ a0 a1 a2 a3 a4 a5 a6 a7 a8 a9 a10 a11 a12 a13 a14 a15 a16 a17 a18 a19 a20 a21 a22 a23 a24 a25 a26 a27 a28 a29 a30 a31, l = [a0, a1, a2, a3, a4, a5, a6, a7, a8, a9, a10, a11, a12, a13, a14, a15, a16, a17, a18, a19, a20, a21, a22, a23, a24, a25, a26, a27, a28, a29, a30, a31] := by
  match l, h with
  | [a0, a1, a2, a3, a4, a5, a6, a7, a8, a9, a10, a11, a12, a13, a14, a15, a16, a17, a18, a19, a20, a21, a22, a23, a24, a25, a26, a27, a28, a29, a30, a31], _ => exact ⟨a0, a1, a2, a3, a4, a5, a6, a7, a8, a9, a10, a11, a12, a13, a14, a15, a16, a17, a18, a19, a20, a21, a22, a23, a24, a25, a26, a27, a28, a29, a30, a31, rfl⟩
theorem list64 {l : List Int} (h : l.length = 64) : ∃ a0 a1 a2 a3 a4 a5 a6 a7 a8 a9 a10 a11 a12 a13 a14 a15 a16 a17 a18 a19 a20 a21 a22 a23 a24 a25 a26 a27 a28 a29 a30 a31 b0 b1 b2 b3 b4 b5 b6 b7 b8 b9 b10 b11 b12 b13 b14 b15 b16 b17 b18 b19 b20 b21 b22 b23 b24 b25 b26 b27 b28 b29 b30 b31, l = [a0, a1, a2, a3, a4, a5, a6, a7, a8, a9, a10, a11, a12, a13, a14, a15, a16, a17, a18, a19, a20, a21, a22, a23, a24, a25, a26, a27, a28, a29, a30, a31, b0, b1, b2, b3, b4, b5, b6, b7, b8, b9, b10, b11, b12, b13, b14, b15, b16, b17, b18, b19, b20, b21, b22, b23, b24, b25, b26, b27, b28, b29, b30, b31] := by
  obtain ⟨a0, a1, a2, a3, a4, a5, a6, a7, a8, a9, a10, a11, a12, a13, a14, a15, a16, a17, a18, a19, a20, a21, a22, a23, a24, a25, a26, a27, a28, a29, a30, a31, ha⟩ := list32 (l := l.take 32) (by rw [List.length_take]; omega)
  obtain ⟨b0, b1, b2, b3, b4, b5, b6, b7, b8, b9, b10, b11, b12, b13, b14, b15, b16, b17, b18, b19, b20, b21, b22, b23, b24, b25, b26, b27, b28, b29, b30, b31, hb⟩ := list32 (l := l.drop 32) (by rw [List.length_drop]; omega)
  refine ⟨a0, a1, a2, a3, a4, a5, a6, a7, a8, a9, a10, a11, a12, a13, a14, a15, a16, a17, a18, a19, a20, a21, a22, a23, a24, a25, a26, a27, a28, a29, a30, a31, b0, b1, b2, b3, b4, b5, b6, b7, b8, b9, b10, b11, b12, b13, b14, b15, b16, b17, b18, b19, b20, b21, b22, b23, b24, b25, b26, b27, b28, b29, b30, b31, ?_⟩
  rw [← List.take_append_drop 32 l, ha, hb]; rfl
theorem built_write (i : Nat) (x : List Int) (hx : x.length = 64) : Tryd.prog.built 81 [(0, .int .i64 (i : Int)), (1, .agg (bv x).toArray)] = some (wc (i, x)).toArray := by
  obtain ⟨a0, a1, a2, a3, a4, a5, a6, a7, a8, a9, a10, a11, a12, a13, a14, a15, a16, a17, a18, a19, a20, a21, a22, a23, a24, a25, a26, a27, a28, a29, a30, a31, b0, b1, b2, b3, b4, b5, b6, b7, b8, b9, b10, b11, b12, b13, b14, b15, b16, b17, b18, b19, b20, b21, b22, b23, b24, b25, b26, b27, b28, b29, b30, b31, rfl⟩ := list64 hx
  kernel_rfl
end Go.Proofs.YtphjjjijdbljaaaDoor
