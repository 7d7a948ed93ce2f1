/- Numbers of bytes: numberOf, ReadNum, the reference's ReadNum. -/
import Derived.Test.YtfnmdeekenjlgaaWirA
namespace Go.Proofs.Ytfnmdeekenjlgaa
open Go Go.RowKit
set_option linter.unusedSimpArgs false
set_option linter.unusedVariables false

def nm (xs : List Int) : Int := xs.foldl (fun a x => bits .or .u64 (IntKind.u64.wrap (a * 256)) x) 0
theorem nm_snoc (xs : List Int) (k : Nat) (h : k < xs.length) : nm (xs.take (k + 1)) = bits .or .u64 (IntKind.u64.wrap (nm (xs.take k) * 256)) (gi xs k) := by
  unfold nm
  rw [List.take_succ_eq_append_getElem h, List.foldl_append]
  rw [gi_get h]; rfl
theorem ret_int {k : IntKind} {a b : Int} (h : a = b) : Ending.returned (.int k a) = .returned (.int k b) := by rw [h]
set_option maxHeartbeats 400000 in
theorem numberOf_any (xs : List Int) (v : Value) (w : World) (hb : Byt xs) (hs : Sl w v xs) (hl : xs.length ≤ 140737488355328) :
    Calls Try.prog 62 #[v] w fun e w' => e = .returned (.int .u64 (nm xs)) ∧ w' = w := by
  obtain ⟨ad, cap, rfl, hc, hx⟩ := hs
  have HX : Hid _ := hx
  clear hx
  have HB : Hid (Byt xs) := hb
  clear hb
  go_enter Try.func62, Try.ntmps62
  go_wp2
  go_loop [3, 8] (fun n i => ∃ k : Nat, k ≤ xs.length ∧ i = .int .i64 k ∧ n = .int .u64 (nm (xs.take k))) (fun _ i => xs.length - (intOf i).toNat)
  case atStart => exact ⟨0, Nat.zero_le _, rfl, rfl⟩
  case round =>
    obtain ⟨k, hk, rfl, rfl⟩ := hrel
    by_cases hlt : k < xs.length
    · have HS : Hid _ := nm_snoc xs k hlt
      obtain ⟨g1, g2⟩ := Byt.get HB.out hlt
      rcases HX.out with ⟨rfl, _⟩ | ⟨b, o, rfl, hlb, hm⟩
      · simp at hlt
      · have hc0 := hm k hlt
        clear hm
        go_wp2
        go_round
        case rel => exact ⟨k + 1, by omega, by go_num, by rw [HS.out]⟩
        case measure => simp [intOf]; omega
    · go_wp2
      go_ret
      exact ⟨ret_int (by rw [List.take_of_length_le (by omega)]), rfl⟩
end Go.Proofs.Ytfnmdeekenjlgaa
