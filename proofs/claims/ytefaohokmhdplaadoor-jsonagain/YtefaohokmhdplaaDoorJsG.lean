/- Package json: the escape at the head of a text. -/
import Derived.Test.YtefaohokmhdplaaDoorJsF
import Derived.Shelf.Utf8.AppendRunePlain
import Derived.Shelf.Lay
import Derived.Ground.NamesProg
namespace Go.Proofs.YtefaohokmhdplaaDoor
open Go Go.RowKit
set_option linter.unusedSimpArgs false
set_option linter.unusedVariables false
set_option maxRecDepth 100000

theorem esc_eq (s : ByteArray) (i : Nat) : esc s i = if s.size < i + 2 then none
  else if gb s (i + 1) = 34 ∨ gb s (i + 1) = 92 ∨ gb s (i + 1) = 47 then some (gb s (i + 1), 2)
  else if gb s (i + 1) = 98 then some (8, 2) else if gb s (i + 1) = 102 then some (12, 2) else if gb s (i + 1) = 110 then some (10, 2)
  else if gb s (i + 1) = 114 then some (13, 2) else if gb s (i + 1) = 116 then some (9, 2)
  else if gb s (i + 1) = 117 then lng s i else none := rfl
set_option maxHeartbeats 16000000 in
theorem escape_any {q : ByteArray} {w : World} (hq : q.size ≤ 8192) {ev : Value} (hv : EV w ev) :
    Calls Tryd.prog 83 #[.string q] w fun e w' => e = .returned (escV (esc q 0)) ∧ Below w.heap.size w w' := by
  have hE := esc_eq q 0
  by_cases h2 : q.size < 2
  · have h2' : (q.size : Int) < 2 := by omega
    rw [if_pos (by omega)] at hE
    have HE : Hid (esc q 0 = none) := hE
    clear hE
    go_enter Tryd.func83, Tryd.ntmps83
    go_wp2
    go_ret3
    rw [HE.out]
    exact ⟨rfl, Below.refl _ _⟩
  have h2' : ¬ (q.size : Int) < 2 := by omega
  rw [if_neg (by omega)] at hE
  have hlt : 1 < q.size := by omega
  have HG : Hid _ := idx_gb hlt
  have c0 := gb_lo q 1; have c1 := gb_hi q 1
  have HL := fun w (hv : EV w ev) => @long_any q w hq ev hv
  rw [show 0 + 1 = 1 from rfl] at hE
  obtain ⟨r, hr⟩ : ∃ r, esc q 0 = r := ⟨_, rfl⟩
  obtain ⟨l, hl⟩ : ∃ l, lng q 0 = l := ⟨_, rfl⟩
  rw [hl] at hE HL
  rw [hr] at hE ⊢
  obtain ⟨c, hc⟩ : ∃ c, gb q 1 = c := ⟨_, rfl⟩
  obtain ⟨c', hc'⟩ : ∃ c', (q[1]'hlt).toNat = c' := ⟨_, rfl⟩
  have HG' : Hid ((c' : Int) = c) := by rw [← hc, ← hc']; exact HG.out
  have H1 : q[1]'hlt = q[1]'hlt := rfl
  rw [hc] at c0 c1 hE
  clear hr hl HG hc
  by_cases e34 : c = 34
  · rw [if_pos (.inl e34)] at hE
    subst hE
    subst e34
    obtain rfl : c' = 34 := by have := HG'.out; omega
    go_enter Tryd.func83, Tryd.ntmps83
    go_wp2
    go_ret3
    exact ⟨rfl, Below.refl _ _⟩
  by_cases e92 : c = 92
  · rw [if_pos (.inr (.inl e92))] at hE
    subst hE
    subst e92
    obtain rfl : c' = 92 := by have := HG'.out; omega
    go_enter Tryd.func83, Tryd.ntmps83
    go_wp2
    go_ret3
    exact ⟨rfl, Below.refl _ _⟩
  by_cases e47 : c = 47
  · rw [if_pos (.inr (.inr e47))] at hE
    subst hE
    subst e47
    obtain rfl : c' = 47 := by have := HG'.out; omega
    go_enter Tryd.func83, Tryd.ntmps83
    go_wp2
    go_ret3
    exact ⟨rfl, Below.refl _ _⟩
  by_cases e98 : c = 98
  · rw [if_neg (by omega), if_pos e98] at hE
    subst hE
    subst e98
    obtain rfl : c' = 98 := by have := HG'.out; omega
    go_enter Tryd.func83, Tryd.ntmps83
    go_wp2
    go_ret3
    exact ⟨rfl, Below.refl _ _⟩
  by_cases e102 : c = 102
  · rw [if_neg (by omega), if_neg e98, if_pos e102] at hE
    subst hE
    subst e102
    obtain rfl : c' = 102 := by have := HG'.out; omega
    go_enter Tryd.func83, Tryd.ntmps83
    go_wp2
    go_ret3
    exact ⟨rfl, Below.refl _ _⟩
  by_cases e110 : c = 110
  · rw [if_neg (by omega), if_neg e98, if_neg e102, if_pos e110] at hE
    subst hE
    subst e110
    obtain rfl : c' = 110 := by have := HG'.out; omega
    go_enter Tryd.func83, Tryd.ntmps83
    go_wp2
    go_ret3
    exact ⟨rfl, Below.refl _ _⟩
  by_cases e114 : c = 114
  · rw [if_neg (by omega), if_neg e98, if_neg e102, if_neg e110, if_pos e114] at hE
    subst hE
    subst e114
    obtain rfl : c' = 114 := by have := HG'.out; omega
    go_enter Tryd.func83, Tryd.ntmps83
    go_wp2
    go_ret3
    exact ⟨rfl, Below.refl _ _⟩
  by_cases e116 : c = 116
  · rw [if_neg (by omega), if_neg e98, if_neg e102, if_neg e110, if_neg e114, if_pos e116] at hE
    subst hE
    subst e116
    obtain rfl : c' = 116 := by have := HG'.out; omega
    go_enter Tryd.func83, Tryd.ntmps83
    go_wp2
    go_ret3
    exact ⟨rfl, Below.refl _ _⟩
  rw [if_neg (by omega), if_neg e98, if_neg e102, if_neg e110, if_neg e114, if_neg e116] at hE
  by_cases e117 : c = 117
  · rw [if_pos e117] at hE
    subst hE
    subst e117
    obtain rfl : c' = 117 := by have := HG'.out; omega
    go_enter Tryd.func83, Tryd.ntmps83
    go_wp2_with fail
    refine (HL _ hv).mono ?_
    rintro e W2 ⟨rfl, hW⟩
    cases r with
    | none =>
      unfold escV
      go_wp2
      go_ret3
      exact ⟨rfl, hW⟩
    | some rn =>
      obtain ⟨r, n⟩ := rn
      unfold escV
      go_wp2
      go_ret3
      exact ⟨rfl, hW⟩
  · rw [if_neg e117] at hE
    subst hE
    have d34 : ¬ (c' : Int) = 34 := by have := HG'.out; omega
    have d92 : ¬ (c' : Int) = 92 := by have := HG'.out; omega
    have d47 : ¬ (c' : Int) = 47 := by have := HG'.out; omega
    have d98 : ¬ (c' : Int) = 98 := by have := HG'.out; omega
    have d102 : ¬ (c' : Int) = 102 := by have := HG'.out; omega
    have d110 : ¬ (c' : Int) = 110 := by have := HG'.out; omega
    have d114 : ¬ (c' : Int) = 114 := by have := HG'.out; omega
    have d116 : ¬ (c' : Int) = 116 := by have := HG'.out; omega
    have d117 : ¬ (c' : Int) = 117 := by have := HG'.out; omega
    clear e34 e92 e47 e98 e102 e110 e114 e116 e117
    go_enter Tryd.func83, Tryd.ntmps83
    go_wp2
    go_ret3
    exact ⟨rfl, Below.refl _ _⟩
end Go.Proofs.YtefaohokmhdplaaDoor
/- utf8.AppendRune onto a row of the call's own. -/
namespace Go.Proofs.YtefaohokmhdplaaDoor
open Go Go.RowKit Go.Shelf
set_option linter.unusedSimpArgs false
set_option linter.unusedVariables false
set_option maxRecDepth 100000

shelf_lay Lays.n242 Nm 242 at Tryd as apr

theorem bv_rune (r : Int) : bv (Lib.encodeRuneZ r) = Lib.runeCells r := rfl
theorem rune_any (B : Nat) (v : Value) (xs : List Int) (r : Int) (hr0 : 0 ≤ r) (hr1 : r ≤ 1114111) (w : World) (h : Ow B w v xs) (hl : xs.length ≤ 1000000) (hB : B ≤ w.heap.size) :
    Calls Tryd.prog 75 #[v, .int .i32 r] w fun e w' => ∃ v', e = .returned v' ∧ Ow B w' v' (xs ++ Lib.encodeRuneZ r) ∧ Below B w w' := by
  refine (Any.utf8_AppendRune_plain apr (by kernel_rfl) B v xs.length (bv xs) r (by omega) (by omega) w h (by omega) hB).mono ?_
  rintro e w' ⟨v', rfl, h1, o, h2⟩
  refine ⟨v', rfl, ?_, ?_⟩
  · unfold Ow
    rw [List.length_append, bv_append, bv_rune, show (Lib.encodeRuneZ r).length = (Lib.runeCells r).length by rw [← bv_rune, bv_length]]
    exact h1
  · have h3 : Below B w (w.alloc o) := (Below.refl _ _).alloc hB _
    exact h3.grown h2 (Nat.le_trans hB h3.size) (fun b e => h.blk b e)
end Go.Proofs.YtefaohokmhdplaaDoor
