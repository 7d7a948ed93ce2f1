/- filled. -/
import Derived.Test.YtmlialabdijcoaaDskI
namespace Go.Proofs.Ytmlialabdijcoaa
open Go Go.RowKit
set_option linter.unusedSimpArgs false
set_option linter.unusedVariables false
set_option maxRecDepth 100000

/-- A byte of a filled sector. -/
def flb (b : Int) (i : Nat) : Int := if i = 63 then (b * 2) % 256 else (b + ((i % 32 : Nat) : Int)) % 256
def fill (b : Int) : List Int := (List.range 64).map (flb b)
theorem fill_length (b : Int) : (fill b).length = 64 := by simp [fill]
theorem fill_get (b : Int) {k : Nat} (h : k < 64) : (fill b)[k]? = some (flb b k) := by simp [fill, h]
/-- A sector of which the first k bytes are filled. -/
def part (b : Int) (k : Nat) : List Int := (fill b).take k ++ z64.drop k
theorem part_length (b : Int) {k : Nat} (h : k ≤ 64) : (part b k).length = 64 := by
  simp [part, fill_length, z64_length]; omega
theorem part_step (b : Int) {k : Nat} (h : k < 64) : (part b k).set k (flb b k) = part b (k + 1) := by
  apply List.ext_getElem?
  intro j
  have hz := z64_length
  have hf := fill_length b
  unfold part
  rw [List.getElem?_set]
  split
  · rename_i e; subst e
    rw [if_pos (by simp [hz, hf]; omega), List.getElem?_append_left (by simp [hf]; omega), List.getElem?_take, if_pos (by omega), fill_get b h]
  · rename_i e
    rw [List.getElem?_append, List.getElem?_append]
    simp only [List.length_take, hf]
    by_cases h1 : j < k
    · rw [if_pos (by omega), if_pos (by omega), List.getElem?_take, List.getElem?_take, if_pos h1, if_pos (by omega)]
    · rw [if_neg (by omega), if_neg (by omega), List.getElem?_drop, List.getElem?_drop]
      congr 1; omega
theorem bv_set (xs : List Int) (k : Nat) (z : Int) : (bv xs).toArray.setIfInBounds k (.int .u8 z) = (bv (xs.set k z)).toArray := by
  rw [List.setIfInBounds_toArray]; simp [bv, List.map_set]
/-- A row of 64 bytes, in a block of its own. -/
def SR (w : World) (b : Nat) (xs : List Int) : Prop := w.heap[b]? = some (.cells (bv xs).toArray 35 (0, 0))
theorem SR.range {w : World} {b : Nat} {xs : List Int} (h : SR w b xs) : w.rangeAt b 0 (bv xs) := fun j u hu => by
  rw [Nat.zero_add, cell_of_row w b j _ _ _ h]; simpa using hu
theorem SR.there {w : World} {b : Nat} {xs : List Int} (h : SR w b xs) (hx : xs.length = 64) : w.there b 0 64 := there_of_row' h 0 64 (by rw [List.size_toArray, bv_length, hx]; omega)
theorem SR.cell {w : World} {b k : Nat} {xs : List Int} (h : SR w b xs) (hk : k < xs.length) : w.cell? ⟨b, k, none⟩ = some (.int .u8 (gi xs k)) ∧ w.frozen? ⟨b, k, none⟩ = false := by
  refine ⟨?_, frozen_of_row _ _ _ _ _ h⟩
  rw [cell_of_row w b k _ _ _ h, List.getElem?_toArray, bv_get xs hk]
theorem SR.set {w : World} {b k : Nat} {xs : List Int} (h : SR w b xs) (z : Int) : SR (w.setCell ⟨b, k, none⟩ (.int .u8 z)) b (xs.set k z) := by
  unfold SR
  rw [heap_setCell_same h, bv_set]
theorem SR.lt {w : World} {b : Nat} {xs : List Int} (h : SR w b xs) : b < w.heap.size := (Array.getElem?_eq_some_iff.1 h).1
theorem two_rows (w : World) : Hid (Below w.heap.size w ((w.alloc (.cells (bv z64).toArray 35)).alloc (.cells (bv z64).toArray 35)) ∧ SR ((w.alloc (.cells (bv z64).toArray 35)).alloc (.cells (bv z64).toArray 35)) w.heap.size z64 ∧ SR ((w.alloc (.cells (bv z64).toArray 35)).alloc (.cells (bv z64).toArray 35)) (w.heap.size + 1) z64) := by
  refine ⟨((Below.refl _ _).alloc (Nat.le_refl _) _).alloc (by simp) _, ?_, ?_⟩
  · show ((w.heap.push _).push _)[w.heap.size]? = _
    rw [Array.getElem?_push_lt (by simp)]; simp
  · show ((w.heap.push _).push _)[w.heap.size + 1]? = _
    simp only [Array.getElem?_push, Array.size_push]; rw [if_pos trivial]
set_option maxHeartbeats 2000000 in
theorem filled_any (b : Int) (hb : 0 ≤ b ∧ b ≤ 255) (w : World) : Calls Try.prog 13 #[.int .u8 b] w fun e w' => e = .returned (.agg (bv (fill b)).toArray) ∧ Below w.heap.size w w' := by
  have hz := zero_sec
  obtain ⟨hb0, hb1⟩ := hb
  go_enter Try.func13, Try.ntmps13
  go_wp2_with fail
  have H0 := two_rows w
  generalize hW : (w.alloc _).alloc _ = w0 at H0 ⊢
  clear hW
  go_loopw [5] (fun c wr => ∃ k : Nat, k ≤ 64 ∧ c = .int .i64 (k : Int) ∧ Hid (Below w.heap.size w wr ∧ SR wr w.heap.size z64 ∧ SR wr (w.heap.size + 1) (part b k))) (fun c _ => 64 - (intOf c).toNat)
  case atStart => exact ⟨0, by omega, rfl, H0⟩
  case round =>
    obtain ⟨k, hk, rfl, HK⟩ := hrel
    by_cases hlt : k < 64
    · have hkl : k < (part b k).length := by rw [part_length b hk]; exact hlt
      obtain ⟨hc0, hf0⟩ := HK.out.2.2.cell hkl
      by_cases h63 : k = 63
      · subst h63
        go_wp2_with fail
        refine ⟨⟨64, by omega, rfl, (HK.out.1.setCell (by simp) _).setCell (by simp) _, ?_, ?_⟩, by simp [intOf]⟩
        · unfold SR
          rw [Below.heap_setCell _ _ _ _ (by simp), Below.heap_setCell _ _ _ _ (by simp)]; exact HK.out.2.1
        · have h1 := (HK.out.2.2.set (k := 63) ((b + 31) % 256)).set (k := 63) (b * 2 % 256)
          rw [List.set_set, show b * 2 % 256 = flb b 63 from rfl, part_step b hlt] at h1
          exact h1
      · go_wp2_with fail
        refine ⟨⟨k + 1, hlt, by go_num, HK.out.1.setCell (by simp) _, ?_, ?_⟩, by simp [intOf]; omega⟩
        · unfold SR
          rw [Below.heap_setCell _ _ _ _ (by simp)]; exact HK.out.2.1
        · have h1 := HK.out.2.2.set (k := k) (flb b k)
          rw [part_step b hlt] at h1
          have e : (b + (k : Int) % 32) % 256 = flb b k := by unfold flb; rw [if_neg h63]; simp
          rw [e]; exact h1
    · obtain rfl : k = 64 := by omega
      have e : part b 64 = fill b := by simp [part, List.take_of_length_le, fill_length, z64]
      have HT : Hid (wr.there w.heap.size 0 64) := HK.out.2.1.there z64_length
      have HR : Hid (wr.rangeAt (w.heap.size + 1) 0 (bv (fill b))) := by have := HK.out.2.2.range; rw [e] at this; exact this
      have HL : Hid ((fill b).length = 64) := fill_length b
      go_wp2_with (first
        | (refine wpList_load_mid rfl 35 _ rfl (w.heap.size + 1) 0 rfl (bv (fill b)) _ HR.out Try.underlying35 rfl (by rw [bv_length, HL.out]; exact size64) ?_)
        | (refine wpList_store_mid rfl 35 _ _ rfl w.heap.size 0 (bv (fill b)).toArray rfl rfl (there_sec HL.out HT.out) (size_sec HL.out) (bv_one' _) ?_))
      refine bodyPost_ret (v := .agg (bv (fill b)).toArray) ?_ rfl ⟨rfl, below_setCells _ (Nat.le_refl _) _ _ _ HK.out.1⟩
      have q := World.rangeAt_setCells_same wr w.heap.size 0 (bv (fill b)) (there_sec HL.out HT.out)
      simp only [results, Try.results13]
      simp [Act.put, asAddr, run_loadVar_mid _ w.heap.size 0 35 (bv (fill b)) _ q Try.underlying35 rfl (by rw [bv_length, HL.out]; exact size64)]
end Go.Proofs.Ytmlialabdijcoaa
