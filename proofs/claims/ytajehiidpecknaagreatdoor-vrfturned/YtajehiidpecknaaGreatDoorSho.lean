/- Names that the walks use again and again, in short. -/
import Derived.RowKit
namespace Go.Proofs.YtajehiidpecknaaGreatDoor
theorem qA.{u} {α : Type u} (l : List α) (i : Nat) (a : α) : l.toArray.setIfInBounds i a = (l.set i a).toArray := List.setIfInBounds_toArray l i a
theorem qB.{u} {α : Type u} {a b : α} {as : List α} {n : Nat} : (a :: as).set (n + 1) b = a :: as.set n b := rfl
theorem qC.{u} {α : Type u} {a b : α} {as : List α} : (a :: as).set 0 b = b :: as := rfl
theorem qD.{u} {α : Type u} (a : α) (as : List α) (i : Nat) (h : i + 1 < (a :: as).length) : (a :: as)[i + 1]'h = as[i]'(Nat.lt_of_succ_lt_succ h) := rfl
theorem qE.{u} {α : Type u} (a : α) (as : List α) (h : 0 < (a :: as).length) : (a :: as)[0]'h = a := rfl
theorem qF.{u} {α : Type u} {xs : List α} {i : Nat} (h : i < xs.toArray.size) : xs.toArray[i]'h = xs[i]'(by simpa using h) := rfl
theorem qG.{u} {α : Type u} (a b : α) : (some a = some b) = (a = b) := Option.some.injEq a b
theorem qH.{u, v} {α : Type u} {β : Type v} (a : α) (b : β) (c : α) (d : β) : ((a, b) = (c, d)) = (a = c ∧ b = d) := Prod.mk.injEq a b c d
theorem YI {n m k : Nat} (h : n < m) (g : m ≤ k) : n < k := Nat.lt_of_lt_of_le h g
theorem YJ.{u} {α : Type u} {a b : α} : a ∈ [b] ↔ a = b := List.mem_singleton
theorem YK {a b : Nat} (h : a < b) : a % b = a := Nat.mod_eq_of_lt h
theorem YL (m n k : Nat) : m / n / k = m / (n * k) := Nat.div_div_eq_div_mul m n k
theorem YM.{u} {α : Type u} {xs : Array α} {i : Nat} {b : α} : xs[i]? = some b ↔ ∃ h : i < xs.size, xs[i] = b := Array.getElem?_eq_some_iff
theorem YN.{u} {α : Type u} (l : List α) : l.toArray.toList = l := rfl
theorem YO.{u, v} {α : Type u} {β : Type v} (a : α) (f : α → β) : (some a).map f = some (f a) := rfl
theorem YP.{u, v} {α : Type u} {β : Type v} (f : α → β) : (none : Option α).map f = none := rfl
end Go.Proofs.YtajehiidpecknaaGreatDoor
