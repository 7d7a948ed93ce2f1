/- 'Write' at whatever bytes: one contract. -/
import Derived.Test.YtddgdaggdgeclaaDoorShaJ
namespace Go.Proofs.YtddgdaggdgeclaaDoor.Sh
open Go Go.RowKit

/-- A Hash that has taken N bytes of M lies in block hb. -/
def HInv (K : Nat → BitVec 32) (s0 : St) (M : Nat → BitVec 8) (w : World) (hb N : Nat) : Prop :=
  ∃ buf, HRow w hb (blocks K s0 M (N / 64)) buf N ∧ ∀ i, i < N % 64 → buf i = M (64 * (N / 64) + i)
/-- A slice of n bytes m: one of no bytes and no room, wherever it points, or one in some block. -/
def Bytes (w : World) (v : Value) (n : Nat) (m : Nat → BitVec 8) (hb : Nat) : Prop :=
  ((∃ ad, v = .slice ad 0 0) ∧ n = 0) ∨ ∃ b off cap, v = .slice (some ⟨b, off, none⟩) n cap ∧ n ≤ cap ∧ b < w.heap.size ∧ b ≠ hb ∧ ∀ i, i < n → w.cell? ⟨b, off + i, none⟩ = some (B (m i))

set_option maxRecDepth 100000 in
set_option maxHeartbeats 400000 in
theorem write_nilb (ad : Option Addr) (hb : Nat) (s : St) (buf : Nat → BitVec 8) (N r : Nat) (hr : N % 64 = r) (hN : N < 4611686018427387904) (w : World) (hw : HRow w hb s buf N) :
    Calls Tryd.prog 33 #[.pointer (some ⟨hb, 0, none⟩), .slice ad 0 0] w fun e w' => e = .returned (.tuple #[]) ∧ w.grownBy w' (some hb) ∧ HRow w' hb s buf N := by
  have hc := hw.len
  have hf := hw.froz 72
  have HW : Hid (HRow (w.setCell ⟨hb, 72, none⟩ (.int .u64 (N : Int))) hb s buf N) := hw.setLen N
  have HR : Hid (N % 64 = r) := hr
  have hr64 : r < 64 := by omega
  clear hw hr
  have g4 : (N : Int) < 4611686018427387904 := by omega
  have g2 : (r : Int) < 64 := by omega
  have HMIN : Hid (Nat.min 0 (64 - r) = 0) := by
    show min 0 (64 - r) = 0
    omega
  have sl1 := fun w1 => sliceAt_all w1 56 5 64 hb 8 Tryd.underlying56 size_u8
  by_cases h0 : r = 0
  · subst h0
    go_enter Tryd.func33, Tryd.ntmps33
    go_wp2_with fail
    refine (held_at hb N 0 HR.out (by omega) _ hc).mono ?_
    rintro e w' ⟨rfl, rfl⟩
    go_wp2_with fail
    go_loopw [1] (fun x wr => x = .slice ad 0 0 ∧ wr = w.setCell ⟨hb, 72, none⟩ (.int .u64 (N : Int))) (fun _ _ => 0)
    case atStart => exact ⟨rfl, rfl⟩
    case round =>
      obtain ⟨rfl, rfl⟩ := hrel
      go_wp2_with (refine wpList_copy_nothing rfl _ _ 30 30 rfl 5 Tryd.underlying30 size_u8 _ _ _ _ _ _ rfl rfl (by decide) ?_)
      go_end0
      exact ⟨rfl, grownBy_setCell0 _ _ _ _, HW.out⟩
  · have g1 : (0 : Int) < (r : Int) := by omega
    have sl0 := fun w1 => sliceAt_l w1 56 5 64 hb 8 (r : Int) r rfl Tryd.underlying56 size_u8 (by omega)
    have g3 : (r : Int) + 0 < 64 := by omega
    have h0' : 0 < r := by omega
    clear h0
    go_enter Tryd.func33, Tryd.ntmps33
    go_wp2_with fail
    refine (held_at hb N r HR.out (by omega) _ hc).mono ?_
    rintro e w' ⟨rfl, rfl⟩
    go_wp2_with (refine wpList_copy_nothing rfl _ _ 30 30 rfl 5 Tryd.underlying30 size_u8 _ _ _ _ _ _ rfl rfl HMIN.out ?_)
    exact bodyPost_ret (v := .tuple #[]) (by simp [results, Tryd.results33]) rfl ⟨rfl, grownBy_setCell0 _ _ _ _, HW.out⟩

theorem write_any (K : Nat → BitVec 32) (s0 : St) (M : Nat → BitVec 8) (hb N n : Nat) (v : Value) (hN : N + n < 4611686018427387904) (hkb : 2 ≠ hb) (w : World)
    (hw : HInv K s0 M w hb N) (hv : Bytes w v n (fun i => M (N + i)) hb) (hK : ∀ i, i < 64 → w.cell? ⟨2, i, none⟩ = some (U (K i))) :
    Calls Tryd.prog 33 #[.pointer (some ⟨hb, 0, none⟩), v] w fun e w' => e = .returned (.tuple #[]) ∧ w.grownBy w' (some hb) ∧ HInv K s0 M w' hb (N + n) := by
  obtain ⟨buf, hw, hbuf⟩ := hw
  rcases hv with ⟨⟨ad, rfl⟩, rfl⟩ | ⟨b, off, cap, rfl, hnc, hblt, hbb, hm⟩
  · exact (write_nilb ad hb _ buf N _ rfl hN w hw).mono fun e w' ⟨h1, h2, h3⟩ => ⟨h1, h2, buf, h3, hbuf⟩
  · by_cases h0 : N % 64 = 0
    · exact (write_whole K s0 M hb buf N b off n cap h0 hnc hN hbb hkb w hblt hw hm hK).mono fun e w' ⟨h1, h2, h3⟩ => ⟨h1, h2, h3⟩
    · by_cases h1 : N % 64 + n < 64
      · refine (write_short hb _ buf (fun i => M (N + i)) N (N % 64) b off n cap rfl (by omega) h1 hN hbb w hw hm).mono fun e w' ⟨h1', h2, _, h4⟩ => ⟨h1', h2, bput buf (N % 64) n (fun i => M (N + i)), ?_, ?_⟩
        · rw [show (N + n) / 64 = N / 64 by omega]; exact h4
        · intro i hi
          rw [bput]
          by_cases h : N % 64 ≤ i
          · rw [if_pos ⟨h, by omega⟩, show N + (i - N % 64) = 64 * ((N + n) / 64) + i by omega]
          · rw [if_neg (fun e => h e.1), hbuf i (by omega), show 64 * (N / 64) + i = 64 * ((N + n) / 64) + i by omega]
      · exact (write_mid K s0 M hb buf N (N % 64) (64 - N % 64) b off n cap rfl (by omega) (by omega) (by omega) hnc hN hbb hkb w hblt hw hbuf hm hK).mono fun e w' ⟨h1, h2, h3⟩ => ⟨h1, h2, h3⟩
end Go.Proofs.YtddgdaggdgeclaaDoor.Sh
