/- The small functions of package sha2 (SHA-256): rotations, sigmas, words and bytes, each by a contract of its own. -/
import Derived.Test.YtddgdaggdgeclaaDoorProg
import Derived.Test.YtddgdaggdgeclaaDoorChecked
import Derived.Test.YtddgdaggdgeclaaDoorShaA
import Derived.WalkKit
import Derived.WalkSpells
import Derived.Outline
import Derived.BigQuiet
import Derived.Deep.QuietTactic
namespace Go.Proofs.YtddgdaggdgeclaaDoor.Sh
open Go Go.RowKit
attribute [local go_sem] u_xor u_and u_or u_add u_shl u_shr u_shr3 u_shr10 u_shr24 u_shr16 u_shr8 u_shl24 u_shl16 u_shl8 u_of_b b_of_u
set_option maxHeartbeats 400000 in
theorem rotl32 (x : BitVec 32) (k : Int) (s : Nat) (hk : bits BinOp.and IntKind.u64 (IntKind.u64.wrap k) 31 = (s : Int)) (hs : s ≤ 32) (w : World) :
    Calls Tryd.prog 47 #[U x, .int .i64 k] w fun e w' => e = .returned (U ((x <<< s) ||| (x >>> (32 - s)))) ∧ w' = w := by
  have hw : IntKind.u64.wrap (32 - (s : Int)) = ((32 - s : Nat) : Int) := by rw [IntKind.wrap_u64]; omega
  have m1 : min s 32 = s := by omega
  have m2 : min (32 - s) 32 = 32 - s := by omega
  go_enter Tryd.func47, Tryd.ntmps47
  go_wp2
  go_ret
  exact ⟨rfl, rfl⟩
set_option maxHeartbeats 400000 in
theorem rotr32 (x : BitVec 32) (k : Int) (h1 : 1 ≤ k) (h2 : k ≤ 31) (w : World) :
    Calls Tryd.prog 46 #[U x, .int .i64 k] w fun e w' => e = .returned (U (rotr x k.toNat)) ∧ w' = w := by
  obtain ⟨n, rfl⟩ := Int.eq_ofNat_of_zero_le (show 0 ≤ k by omega)
  have HN : Hid (bits BinOp.and IntKind.u64 (IntKind.u64.wrap (-(n : Int))) 31 = ((32 - n : Nat) : Int)) := neg_and ⟨n, by omega⟩ (by show 1 ≤ n; omega)
  have HE : Hid ((x <<< (32 - n)) ||| (x >>> (32 - (32 - n))) = rotr x n) := by unfold rotr; rw [show 32 - (32 - n) = n by omega]; rfl
  go_enter Tryd.func46, Tryd.ntmps46
  go_wp2_with fail
  refine (rotl32 x _ (32 - n) HN.out (by omega) _).mono ?_
  rintro e w' ⟨rfl, rfl⟩
  rw [HE.out]
  go_wp2
  go_ret
  exact ⟨rfl, rfl⟩
set_option maxHeartbeats 400000 in
theorem up0_any (x : BitVec 32) (w : World) : Calls Tryd.prog 41 #[U x] w fun e w' => e = .returned (U (up0 x)) ∧ w' = w := by
  go_enter Tryd.func41, Tryd.ntmps41
  go_wp2_with (go_at_call 46; refine (rotr32 x _ (by decide) (by decide) _).mono ?_; rintro e w' ⟨rfl, rfl⟩)
  go_ret
  exact ⟨rfl, rfl⟩
set_option maxHeartbeats 400000 in
theorem up1_any (x : BitVec 32) (w : World) : Calls Tryd.prog 40 #[U x] w fun e w' => e = .returned (U (up1 x)) ∧ w' = w := by
  go_enter Tryd.func40, Tryd.ntmps40
  go_wp2_with (go_at_call 46; refine (rotr32 x _ (by decide) (by decide) _).mono ?_; rintro e w' ⟨rfl, rfl⟩)
  go_ret
  exact ⟨rfl, rfl⟩
set_option maxHeartbeats 400000 in
theorem lo0_any (x : BitVec 32) (w : World) : Calls Tryd.prog 45 #[U x] w fun e w' => e = .returned (U (lo0 x)) ∧ w' = w := by
  go_enter Tryd.func45, Tryd.ntmps45
  go_wp2_with (go_at_call 46; refine (rotr32 x _ (by decide) (by decide) _).mono ?_; rintro e w' ⟨rfl, rfl⟩)
  go_ret
  exact ⟨rfl, rfl⟩
set_option maxHeartbeats 400000 in
theorem lo1_any (x : BitVec 32) (w : World) : Calls Tryd.prog 44 #[U x] w fun e w' => e = .returned (U (lo1 x)) ∧ w' = w := by
  go_enter Tryd.func44, Tryd.ntmps44
  go_wp2_with (go_at_call 46; refine (rotr32 x _ (by decide) (by decide) _).mono ?_; rintro e w' ⟨rfl, rfl⟩)
  go_ret
  exact ⟨rfl, rfl⟩
set_option maxHeartbeats 400000 in
theorem word32_any (b off cap : Nat) (b0 b1 b2 b3 : BitVec 8) (w : World) (h0 : w.cell? ⟨b, off, none⟩ = some (B b0)) (h1 : w.cell? ⟨b, off + 1, none⟩ = some (B b1)) (h2 : w.cell? ⟨b, off + 2, none⟩ = some (B b2)) (h3 : w.cell? ⟨b, off + 3, none⟩ = some (B b3)) :
    Calls Tryd.prog 43 #[.slice (some ⟨b, off, none⟩) 4 cap] w fun e w' => e = .returned (U (word b0 b1 b2 b3)) ∧ ∃ n, w' = w.drewN n := by
  go_enter Tryd.func43, Tryd.ntmps43
  go_wp2
  go_quiet (fail)
  go_wp2
  go_ret
  exact ⟨rfl, nq, rfl⟩
set_option maxHeartbeats 400000 in
theorem putWord32_walk (b off cap : Nat) (x : BitVec 32) (w : World) (v0 v1 v2 v3 : Value) (h0 : w.cell? ⟨b, off, none⟩ = some v0) (h1 : w.cell? ⟨b, off + 1, none⟩ = some v1) (h2 : w.cell? ⟨b, off + 2, none⟩ = some v2) (h3 : w.cell? ⟨b, off + 3, none⟩ = some v3)
    (f0 : w.frozen? ⟨b, off, none⟩ = false) (f1 : w.frozen? ⟨b, off + 1, none⟩ = false) (f2 : w.frozen? ⟨b, off + 2, none⟩ = false) (f3 : w.frozen? ⟨b, off + 3, none⟩ = false) :
    Calls Tryd.prog 42 #[.slice (some ⟨b, off, none⟩) 4 cap, U x] w fun e w' => e = .returned (.tuple #[]) ∧
      w' = (((w.setCell ⟨b, off, none⟩ (B ((x >>> 24).setWidth 8))).setCell ⟨b, off + 1, none⟩ (B ((x >>> 16).setWidth 8))).setCell ⟨b, off + 2, none⟩ (B ((x >>> 8).setWidth 8))).setCell ⟨b, off + 3, none⟩ (B (x.setWidth 8)) := by
  go_enter Tryd.func42, Tryd.ntmps42
  go_wp2
  go_end0
  exact ⟨rfl, rfl⟩
end Go.Proofs.YtddgdaggdgeclaaDoor.Sh
