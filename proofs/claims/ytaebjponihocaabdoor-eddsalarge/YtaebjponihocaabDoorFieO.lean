/- 32 bytes that come in: opened, and shut again in whatever world. -/
import Derived.Test.YtaebjponihocaabDoorFieD
import Derived.ProofKit
import Derived.OpenShut
import Derived.ChangeReads
import Derived.ChangeArms
import Derived.ChangeOld
import Derived.Below
namespace Go.Proofs.YtaebjponihocaabDoor
open Go Go.ChangeShapes Go.WideShapes Go.ChangeAt Go.RowKit
set_option maxRecDepth 100000
section
variable {H : Type} {enc : TypeId × Value → H}
theorem digits : ∀ (k : Nat) (f : Nat → Nat), (∀ i, i < k → f i < 256) → ∃ n, n < 256 ^ k ∧ ∀ i, i < k → n / 256 ^ i % 256 = f i
  | 0, _, _ => ⟨0, by decide, fun i hi => by omega⟩
  | k + 1, f, h => by
    obtain ⟨n, hn, hd⟩ := digits k f (fun i hi => h i (by omega))
    have hk := h k (by omega)
    refine ⟨n + f k * 256 ^ k, ?_, fun i hi => ?_⟩
    · have : f k * 256 ^ k ≤ 255 * 256 ^ k := Nat.mul_le_mul_right _ (by omega)
      rw [Nat.pow_succ]; omega
    · by_cases h1 : i < k
      · have e : (256 : Nat) ^ k = 256 ^ i * (256 * 256 ^ (k - i - 1)) := by
          rw [← Nat.pow_succ', ← Nat.pow_add]; congr 1; omega
        rw [e, show f k * (256 ^ i * (256 * 256 ^ (k - i - 1))) = 256 ^ i * (256 * (f k * 256 ^ (k - i - 1))) by rw [Nat.mul_left_comm, Nat.mul_left_comm (f k)], Nat.add_mul_div_left _ _ (Nat.pow_pos (by decide)), Nat.add_mul_mod_self_left]
        exact hd i h1
      · obtain rfl : i = k := by omega
        rw [Nat.add_mul_div_right _ _ (Nat.pow_pos (by decide)), Nat.div_eq_of_lt hn, Nat.zero_add]
        exact Nat.mod_eq_of_lt hk
theorem trod_u8_any (W W' : World) (b b' : Nat) (sp sp' : Nat → Bool) (hd hd' : Bool) (m : Nat) (x : List Value) :
    DataW.trod enc Tryd.prog W b sp hd m 5 x = DataW.trod enc Tryd.prog W' b' sp' hd' m 5 x := by
  cases m with
  | zero => rfl
  | succ m =>
    rw [DataW.trod_step, DataW.trod_step]
    unfold DataW.trodStep
    simp only [Tryd.underlying5]
    rcases x with _ | ⟨v, _ | ⟨u, r⟩⟩
    · rfl
    · cases v <;> rfl
    · cases v <;> rfl
theorem trod_32_any (W W' : World) (b b' : Nat) (sp sp' : Nat → Bool) (hd hd' : Bool) (m : Nat) (x : List Value) :
    DataW.trod enc Tryd.prog W b sp hd m 22 x = DataW.trod enc Tryd.prog W' b' sp' hd' m 22 x := by
  cases m with
  | zero => rfl
  | succ m =>
    rw [DataW.trod_step, DataW.trod_step]
    unfold DataW.trodStep
    simp only [Tryd.underlying22]
    congr 1
    congr 1
    congr 1
    funext i
    exact trod_u8_any W W' b b' sp sp' hd hd' m _
theorem open32 {W : World} {r : Reach} {b0 b : Nat} {sp : Nat → Bool} {held : Bool} {v : Value} {d : DataW H} {p : List MemPlace} (hok : Value.okWide Tryd.prog W r b0 22 v) (h : DataW.Trod enc Tryd.prog W b sp held 22 v d p) :
    ∃ n, n < RN ∧ v = bv n ∧ p = [] ∧ ∀ (W' : World) (b' : Nat) (sp' : Nat → Bool) (held' : Bool), DataW.Trod enc Tryd.prog W' b' sp' held' 22 v d [] := by
  simp only [Value.okWide, Tryd.underlying22] at hok
  obtain ⟨cs, rfl, hcs, _⟩ := hok
  obtain ⟨fuel, hf⟩ := h
  have h32 : Tryd.prog.cellsOf 22 = 32 := by kernel_rfl
  have h1 : Tryd.prog.cellsOf 5 = 1 := by kernel_rfl
  rw [h32] at hcs
  have hf2 := hf
  obtain ⟨xs, m, rfl, hx, hl, hlen, hall⟩ := DataW.trod_array Tryd.underlying22 hf
  rw [h1] at hall
  have key : ∀ i, i < 32 → ∃ z : Int, cs[i]? = some (.int .u8 z) ∧ xs[i]? = some (.lit (.int .u8 z), []) ∧ (Lit.int .u8 z).wf = true := fun i hi => by
    have hi' := hall i hi
    rw [List.getElem?_eq_getElem (by omega)] at hi'
    obtain ⟨z, hc, e, wz⟩ := DataW.trod_int Tryd.underlying5 hi'
    refine ⟨z, ?_, ?_, wz⟩
    · have := congrArg (·[0]?) hc
      simpa [List.getElem?_take, List.getElem?_drop, Value.cells] using this
    · rw [List.getElem?_eq_getElem (by omega), e]
  have hp : p = [] := by
    rw [Prod.mk.injEq] at hx
    rw [hx.2, List.flatMap_eq_nil_iff]
    intro y hy
    obtain ⟨i, hi, rfl⟩ := List.mem_iff_getElem.1 hy
    obtain ⟨z, _, e, _⟩ := key i (by omega)
    rw [List.getElem?_eq_getElem hi, Option.some.injEq] at e
    rw [e]
  subst hp
  -- the digits
  obtain ⟨n, hn, hd⟩ := digits 32 (fun i => match cs[i]? with | some (.int .u8 z) => z.toNat | _ => 0) (fun i hi => by
    obtain ⟨z, hc, _, wz⟩ := key i hi
    rw [hc]
    simp [Lit.wf, IntKind.min, IntKind.max, IntKind.signed, IntKind.bits] at wz
    simp only; omega)
  refine ⟨n, hn, ?_, rfl, fun W' b' sp' held' => ⟨m + 1, by rw [trod_32_any W' W b' b sp' sp held' held]; exact hf2⟩⟩
  unfold bv
  congr 1
  apply Array.ext_getElem?
  intro i
  by_cases hi : i < 32
  · obtain ⟨z, hc, _, wz⟩ := key i hi
    rw [hc, br_get n i hi]
    have := hd i hi
    rw [hc] at this
    simp [Lit.wf, IntKind.min, IntKind.max, IntKind.signed, IntKind.bits] at wz
    simp only at this
    congr 2
    unfold by8
    omega
  · rw [Array.getElem?_eq_none (by omega), Array.getElem?_eq_none (by rw [br_size]; omega)]
end
end Go.Proofs.YtaebjponihocaabDoor
