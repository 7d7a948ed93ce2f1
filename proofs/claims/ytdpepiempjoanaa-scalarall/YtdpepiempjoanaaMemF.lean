/- The calls of math/bits as contracts of the small memory. -/
import Derived.Test.YtdpepiempjoanaaMemE
import Derived.Laws.Externs
import Derived.Lib.Mul64
import Derived.Laws.Bits64b
import Derived.Shelf.Spec.BitsCarry
namespace Go.Proofs.Ytdpepiempjoanaa
open Go Go.RowKit
set_option linter.unusedSimpArgs false
set_option linter.unusedVariables false
def bodyOf (fn : Func) : Code := fn.body.getD .skip
/-- A word of 64 bits. -/
def Word (x : Int) : Prop := 0 ≤ x ∧ x < 18446744073709551616
def Bit (c : Int) : Prop := 0 ≤ c ∧ c ≤ 1
/-- The borrow. -/
def bor (x y : Int) : Int := if x < y then 1 else 0
theorem bor_bit (x y : Int) : Bit (bor x y) := by unfold bor Bit; split <;> decide
theorem add64 (x y c : Int) (hx : 0 ≤ x) (hy : 0 ≤ y) (hc0 : 0 ≤ c) (hc : c ≤ 1) (w : World) : (callFunc 36 #[.int .u64 x, .int .u64 y, .int .u64 c]).run Try.prog w =
    .ok (.value (.tuple #[.int .u64 ((x + y + c) % 18446744073709551616), .int .u64 ((x + y + c) / 18446744073709551616)])) w := by
  rw [run_callFunc_extern Try.func36 (by kernel_rfl) (by kernel_rfl) (by kernel_rfl) (e := add64Entry) (by kernel_rfl), run_add64 x y c hx hy hc0 hc]
  rfl
theorem sub64 (x y b : Int) (hx : 0 ≤ x) (hy : 0 ≤ y) (hy' : y < 18446744073709551616) (hb0 : 0 ≤ b) (hb : b ≤ 1) (w : World) : (callFunc 33 #[.int .u64 x, .int .u64 y, .int .u64 b]).run Try.prog w =
    .ok (.value (.tuple #[.int .u64 ((x - y - b) % 18446744073709551616), .int .u64 (bor x (y + b))])) w := by
  obtain ⟨x, rfl⟩ := Int.eq_ofNat_of_zero_le hx
  obtain ⟨y, rfl⟩ := Int.eq_ofNat_of_zero_le hy
  obtain ⟨b, rfl⟩ := Int.eq_ofNat_of_zero_le hb0
  have e1 : (((x + 18446744073709551616 - y - b) % 18446744073709551616 : Nat) : Int) = ((x : Int) - y - b) % 18446744073709551616 := by omega
  have e2 : ((if x < y + b then 1 else 0 : Nat) : Int) = bor x (y + b) := by unfold bor; split <;> split <;> omega
  rw [← e1, ← e2]
  rw [run_callFunc_extern Try.func33 (by kernel_rfl) (by kernel_rfl) (by kernel_rfl) (e := sub64Entry) (by kernel_rfl), run_sub64 x y b (by omega)]
  rfl
def gAdd : List Value → Option (List Prop × Value)
  | [.int .u64 x, .int .u64 y, .int .u64 c] => some ([Word x ∧ Word y ∧ Bit c], .tuple #[.int .u64 ((x + y + c) % 18446744073709551616), .int .u64 ((x + y + c) / 18446744073709551616)])
  | _ => none
def gSub : List Value → Option (List Prop × Value)
  | [.int .u64 x, .int .u64 y, .int .u64 c] => some ([Word x ∧ Word y ∧ Bit c], .tuple #[.int .u64 ((x - y - c) % 18446744073709551616), .int .u64 (bor x (y + c))])
  | _ => none
def gMul : List Value → Option (List Prop × Value)
  | [.int .u64 x, .int .u64 y] => some ([Word x ∧ Word y], .tuple #[.int .u64 (x * y / 18446744073709551616), .int .u64 (x * y % 18446744073709551616)])
  | _ => none
theorem gAdd_ok {X : Cx} (hX : X.Ok Try.prog) : (X.pure 36 gAdd).Ok Try.prog := by
  refine Cx.pure_ok hX ?_
  intro args ps v ha hg hp
  unfold gAdd at hg
  split at hg
  · rename_i x y c
    simp only [Option.some.injEq, Prod.mk.injEq] at hg
    obtain ⟨rfl, rfl⟩ := hg
    obtain ⟨⟨x0, x1⟩, ⟨y0, y1⟩, c0, c1⟩ := hp _ (List.mem_singleton.2 rfl)
    exact ⟨.inl rfl, fun w => .inl ⟨_, w, add64 x y c x0 y0 c0 c1 w, rfl, Below.refl _ _⟩⟩
  · simp at hg
theorem gSub_ok {X : Cx} (hX : X.Ok Try.prog) : (X.pure 33 gSub).Ok Try.prog := by
  refine Cx.pure_ok hX ?_
  intro args ps v ha hg hp
  unfold gSub at hg
  split at hg
  · rename_i x y c
    simp only [Option.some.injEq, Prod.mk.injEq] at hg
    obtain ⟨rfl, rfl⟩ := hg
    obtain ⟨⟨x0, x1⟩, ⟨y0, y1⟩, c0, c1⟩ := hp _ (List.mem_singleton.2 rfl)
    exact ⟨.inl rfl, fun w => .inl ⟨_, w, sub64 x y c x0 y0 y1 c0 c1 w, rfl, Below.refl _ _⟩⟩
  · simp at hg
theorem mixed : Try.prog.follows .mixedOrders = true := by kernel_rfl
/-- The contract of a function with a Go body that looks at no memory. -/
theorem gBody_ok {X : Cx} (hX : X.Ok Try.prog) {f : FuncId} {fn : Func} {g : List Value → Option (List Prop × Value)} (hf : Try.prog.funcs[f]? = some fn) (hname : (fn.name == "runtime.NumGoroutine") = false) (hb : fn.body = some (bodyOf fn))
    (h : ∀ args ps v, args.all flat = true → g args = some (ps, v) → (∀ p ∈ ps, p) → (flat v = true ∨ v = undef) ∧ ∀ w, Calls Try.prog f args.toArray w fun e w' => e = .returned v ∧ Below w.heap.size w w') : (X.pure f g).Ok Try.prog :=
  Cx.pure_ok hX fun args ps v ha hg hp => ⟨(h args ps v ha hg hp).1, fun w => call_enter hf hname hb (((h args ps v ha hg hp).2 w).mono (by rintro e w' ⟨rfl, hb⟩; exact ⟨_, rfl, rfl, hb⟩))⟩
end Go.Proofs.Ytdpepiempjoanaa
