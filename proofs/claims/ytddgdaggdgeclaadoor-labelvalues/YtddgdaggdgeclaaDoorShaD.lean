/- One block of SHA-256: what 'mix256' answers. -/
import Derived.Test.YtddgdaggdgeclaaDoorShaC
namespace Go.Proofs.YtddgdaggdgeclaaDoor.Sh
open Go Go.RowKit

structure St where
  a : BitVec 32
  b : BitVec 32
  c : BitVec 32
  d : BitVec 32
  e : BitVec 32
  f : BitVec 32
  g : BitVec 32
  h : BitVec 32
def tt1 (s : St) (k w : BitVec 32) : BitVec 32 := s.h + up1 s.e + ((s.e &&& s.f) ^^^ (~~~ s.e &&& s.g)) + k + w
def tt2 (s : St) : BitVec 32 := up0 s.a + ((s.a &&& s.b) ^^^ (s.a &&& s.c) ^^^ (s.b &&& s.c))
def step (s : St) (k w : BitVec 32) : St := ⟨tt1 s k w + tt2 s, s.a, s.b, s.c, s.d + tt1 s k w, s.e, s.f, s.g⟩
def rounds (K W : Nat → BitVec 32) (s : St) : Nat → St
  | 0 => s
  | n + 1 => step (rounds K W s n) (K n) (W n)
def plus (s t : St) : St := ⟨s.a + t.a, s.b + t.b, s.c + t.c, s.d + t.d, s.e + t.e, s.f + t.f, s.g + t.g, s.h + t.h⟩
def St.row (s : St) : Array Value := #[U s.a, U s.b, U s.c, U s.d, U s.e, U s.f, U s.g, U s.h]
theorem St.one (s : St) : s.row.all (·.oneCell') = true :=
  all_oneCell_toArray (fun v hv => by
    simp only [List.mem_cons, List.not_mem_nil, or_false] at hv
    rcases hv with h | h | h | h | h | h | h | h <;> (subst h; rfl))
theorem u_not (x : BitVec 32) : bits .xor .u32 (4294967295 : Int) (u x) = u (~~~ x) := by
  show IntKind.u32.wrap ((BitVec.ofInt 32 (4294967295 : Int) ^^^ BitVec.ofInt 32 (u x)).toNat : Int) = _
  rw [u_ofInt, show BitVec.ofInt 32 (4294967295 : Int) = BitVec.allOnes 32 by decide, BitVec.allOnes_xor]; exact u_wrap _

theorem u_not' (x : BitVec 32) : bits .xor .u32 (if IntKind.u32.signed = true then -1 else IntKind.u32.max) (u x) = u (~~~ x) := u_not x

/-- What the loop holds: the state's box, the result's place, the schedule's row at p; nothing old has turned. -/
structure MRel (w wr : World) (s : St) (W : Nat → BitVec 32) (p : Nat) : Prop where
  below : Below w.heap.size w wr
  pos : w.heap.size + 2 ≤ p
  box : wr.heap[w.heap.size]? = some (.cells s.row 45 (0, 0))
  res : wr.heap[w.heap.size + 1]? = some (.cells (List.replicate 8 (Value.int .u32 0)).toArray 45 (0, 0))
  row : wr.rangeAt p 0 (rowW W 64).toList
theorem MRel.drewN {w wr : World} {s : St} {W : Nat → BitVec 32} {p : Nat} (h : MRel w wr s W p) (n : Nat) : MRel w (wr.drewN n) s W p :=
  ⟨below_drewN h.below n, h.pos, h.box, h.res, h.row⟩
theorem MRel.start (w : World) (s : St) (W : Nat → BitVec 32) (w1 : World) (Z : Array Value) (hZ : Z.size = 64)
    (hb : Below (w.heap.size + 2) ((w.alloc (.cells s.row 45)).alloc (.cells (List.replicate 8 (Value.int .u32 0)).toArray 45)) w1) :
    MRel w ((w1.alloc (.cells Z 46)).setCells w1.heap.size 0 (rowW W 64).toList) s W w1.heap.size := by
  have hz := hb.size
  simp at hz
  have b0 : Below w.heap.size w w1 := (((Below.refl _ _).alloc (Nat.le_refl _) _).alloc (by simp) _).trans (hb.mono (by omega))
  have b1 : Below w1.heap.size w1 ((w1.alloc (.cells Z 46)).setCells w1.heap.size 0 (rowW W 64).toList) :=
    below_setCells _ (Nat.le_refl _) _ _ _ ((Below.refl _ _).alloc (Nat.le_refl _) _)
  refine ⟨b0.trans (b1.mono (by omega)), hz, ?_, ?_, ?_⟩
  · rw [b1.block _ (by omega), hb.block _ (by omega)]; exact heap_alloc2_old _ _ _
  · rw [b1.block _ (by omega), hb.block _ (by omega)]; exact heap_alloc2_new _ _ _
  · exact World.rangeAt_setCells_same _ _ _ _ (there_of_row (heap_alloc_new _ _) 0 _ (by rw [Array.length_toList, rowW_size, hZ]; omega))
theorem MRel.cell {w wr : World} {s : St} {W : Nat → BitVec 32} {p : Nat} (h : MRel w wr s W p) (i : Nat) (hi : i < 64) : wr.cell? ⟨p, i, none⟩ = some (U (W i)) := by
  have := h.row i (U (W i)) (by rw [Array.getElem?_toList, rowW_get W 64 i hi, upto, if_pos hi])
  simpa using this
attribute [local go_sem] u_xor u_and u_or u_add u_not u_not'

set_option maxRecDepth 100000 in
set_option maxHeartbeats 1000000 in
theorem mix_walk (K : Nat → BitVec 32) (m : Nat → BitVec 8) (W : Nat → BitVec 32) (hW : Sched m W) (s : St) (b off n cap : Nat) (hn : 64 ≤ n) (hcap : n ≤ cap) (w : World) (hm : ∀ i, i < 64 → w.cell? ⟨b, off + i, none⟩ = some (B (m i)))
    (hK : ∀ i, i < 64 → w.cell? ⟨2, i, none⟩ = some (U (K i))) :
    Calls Tryd.prog 36 #[.agg s.row, .slice (some ⟨b, off, none⟩) n cap] w fun e w' => e = .returned (.agg (plus s (rounds K W s 64)).row) ∧ Below w.heap.size w w' := by
  have hb : b < w.heap.size := block_lt_of_cell (hm 0 (by omega))
  have hg : 2 < w.heap.size := block_lt_of_cell (hK 0 (by omega))
  have HM : Hid (∀ i, i < 64 → w.cell? ⟨b, off + i, none⟩ = some (B (m i))) := hm
  have HK : Hid (∀ i, i < 64 → w.cell? ⟨2, i, none⟩ = some (U (K i))) := hK
  clear hm hK
  obtain ⟨sa, sb, sc, sd, se, sf, sg, sh⟩ := s
  unfold St.row
  go_enter Tryd.func36, Tryd.ntmps36
  go_wp2_with fail
  refine (sched_walk m W hW b off n cap hn hcap _ ?_).mono ?_
  · intro i hi
    exact ((((Below.refl w.heap.size w).alloc (Nat.le_refl _) _).alloc (by simp) _).cell (p := ⟨b, off + i, none⟩) hb).trans (HM.out i hi)
  rintro e w1 ⟨rfl, hb1⟩
  have hst := fun Z hZ => MRel.start w ⟨sa, sb, sc, sd, se, sf, sg, sh⟩ W w1 Z hZ (hb1.mono (by simp))
  have HS : Hid (∀ Z : Array Value, Z.size = 64 → MRel w ((w1.alloc (.cells Z 46)).setCells w1.heap.size 0 (rowW W 64).toList) ⟨sa, sb, sc, sd, se, sf, sg, sh⟩ W w1.heap.size) := hst
  clear hst hb1
  go_wp2_with (refine wpList_store_midL rfl 46 _ _ rfl w1.heap.size 0 (rowW W 64) rfl rfl (by rw [rowW_size]; exact there_of_row (heap_alloc_new _ _) 0 64 (by simp)) (by rw [rowW_size]; kernel_rfl) (by exact rowW_one W 64) ?_; intro w3 hw3; have hM : MRel w w3 ⟨sa, sb, sc, sd, se, sf, sg, sh⟩ W w1.heap.size := (by rw [hw3]; exact HS.out _ rfl); clear hw3)
  generalize w1.heap.size = p at hM ⊢
  clear HS
  have c0 : w3.cell? ⟨w.heap.size, 0, none⟩ = some (U sa) := cell_of_row _ _ 0 _ _ _ hM.box
  have c1 : w3.cell? ⟨w.heap.size, 1, none⟩ = some (U sb) := cell_of_row _ _ 1 _ _ _ hM.box
  have c2 : w3.cell? ⟨w.heap.size, 2, none⟩ = some (U sc) := cell_of_row _ _ 2 _ _ _ hM.box
  have c3 : w3.cell? ⟨w.heap.size, 3, none⟩ = some (U sd) := cell_of_row _ _ 3 _ _ _ hM.box
  have c4 : w3.cell? ⟨w.heap.size, 4, none⟩ = some (U se) := cell_of_row _ _ 4 _ _ _ hM.box
  have c5 : w3.cell? ⟨w.heap.size, 5, none⟩ = some (U sf) := cell_of_row _ _ 5 _ _ _ hM.box
  have c6 : w3.cell? ⟨w.heap.size, 6, none⟩ = some (U sg) := cell_of_row _ _ 6 _ _ _ hM.box
  have c7 : w3.cell? ⟨w.heap.size, 7, none⟩ = some (U sh) := cell_of_row _ _ 7 _ _ _ hM.box
  have HMR : Hid (MRel w w3 ⟨sa, sb, sc, sd, se, sf, sg, sh⟩ W p) := hM
  clear hM
  go_quiet (fail)
  go_wp2
  go_quiet (fail)
  go_wp2
  clear c0 c1 c2 c3 c4 c5 c6 c7
  go_loopw [6, 7, 8, 9, 10, 11, 12, 13, 35] (fun xa xb xc xd xe xf xg xh i wr => ∃ (k : Nat) (r : St), k ≤ 64 ∧ i = .int .i64 k ∧ r = rounds K W ⟨sa, sb, sc, sd, se, sf, sg, sh⟩ k ∧ xa = U r.a ∧ xb = U r.b ∧ xc = U r.c ∧ xd = U r.d ∧ xe = U r.e ∧ xf = U r.f ∧ xg = U r.g ∧ xh = U r.h ∧ MRel w wr ⟨sa, sb, sc, sd, se, sf, sg, sh⟩ W p) (fun _ _ _ _ _ _ _ _ i _ => 64 - (intOf i).toNat)
  case atStart => exact ⟨0, _, by omega, rfl, rfl, rfl, rfl, rfl, rfl, rfl, rfl, rfl, rfl, (HMR.out.drewN _).drewN _⟩
  case round =>
    obtain ⟨k, r, hk, rfl, hr, rfl, rfl, rfl, rfl, rfl, rfl, rfl, rfl, hM⟩ := hrel
    obtain ⟨ra, rb, rc, rd, re, rf, rg, rh⟩ := r
    have HR : Hid (⟨ra, rb, rc, rd, re, rf, rg, rh⟩ = rounds K W ⟨sa, sb, sc, sd, se, sf, sg, sh⟩ k) := hr
    clear hr
    dsimp only
    by_cases hlt : k < 64
    · have hk1 : (k : Int) < 64 := by omega
      have c1 := (hM.below.cell (p := ⟨2, k, none⟩) hg).trans (HK.out k hlt)
      have c2 := hM.cell k hlt
      have HMM : Hid (MRel w _ ⟨sa, sb, sc, sd, se, sf, sg, sh⟩ W p) := hM
      clear hM
      go_wp2_with fail
      go_quiet ((go_at_call 40; exact Calls.quiet_of_same (up1_any _ _)))
      go_wp2_with (go_at_call 41; refine (up0_any _ _).mono ?_; rintro e w' ⟨rfl, rfl⟩)
      go_roundw
      case rel =>
        exact ⟨k + 1, step ⟨ra, rb, rc, rd, re, rf, rg, rh⟩ (K k) (W k), by omega, by go_num, by rw [HR.out]; rfl, rfl, rfl, rfl, rfl, rfl, rfl, rfl, rfl, HMM.out.drewN _⟩
      case measure => simp [intOf]; omega
    · obtain rfl : k = 64 := by omega
      have c0 : wr.cell? ⟨w.heap.size, 0, none⟩ = some (U sa) := cell_of_row _ _ 0 _ _ _ hM.box
      have c1 : wr.cell? ⟨w.heap.size, 1, none⟩ = some (U sb) := cell_of_row _ _ 1 _ _ _ hM.box
      have c2 : wr.cell? ⟨w.heap.size, 2, none⟩ = some (U sc) := cell_of_row _ _ 2 _ _ _ hM.box
      have c3 : wr.cell? ⟨w.heap.size, 3, none⟩ = some (U sd) := cell_of_row _ _ 3 _ _ _ hM.box
      have c4 : wr.cell? ⟨w.heap.size, 4, none⟩ = some (U se) := cell_of_row _ _ 4 _ _ _ hM.box
      have c5 : wr.cell? ⟨w.heap.size, 5, none⟩ = some (U sf) := cell_of_row _ _ 5 _ _ _ hM.box
      have c6 : wr.cell? ⟨w.heap.size, 6, none⟩ = some (U sg) := cell_of_row _ _ 6 _ _ _ hM.box
      have c7 : wr.cell? ⟨w.heap.size, 7, none⟩ = some (U sh) := cell_of_row _ _ 7 _ _ _ hM.box
      have HT : Hid (wr.there (w.heap.size + 1) 0 8) := there_of_row hM.res 0 8 (by simp)
      have HMM : Hid (MRel w _ ⟨sa, sb, sc, sd, se, sf, sg, sh⟩ W p) := hM
      clear hM
      go_wp2_with (refine wpList_store_mid rfl 45 _ _ rfl (w.heap.size + 1) 0 (plus ⟨sa, sb, sc, sd, se, sf, sg, sh⟩ ⟨ra, rb, rc, rd, re, rf, rg, rh⟩).row rfl rfl HT.out (by kernel_rfl) (St.one _) ?_)
      rw [← HR.out]
      refine bodyPost_ret (v := .agg (plus ⟨sa, sb, sc, sd, se, sf, sg, sh⟩ ⟨ra, rb, rc, rd, re, rf, rg, rh⟩).row) ?_ rfl ⟨rfl, ?_⟩
      · exact results_mid Tryd.results36 _ _ (w.heap.size + 1) 0 (plus ⟨sa, sb, sc, sd, se, sf, sg, sh⟩ ⟨ra, rb, rc, rd, re, rf, rg, rh⟩).row.toList _ rfl (World.rangeAt_setCells_same _ _ _ _ HT.out) Tryd.underlying45 rfl (by kernel_rfl)
      · exact below_setCells _ (by omega) _ _ _ HMM.out.below
end Go.Proofs.YtddgdaggdgeclaaDoor.Sh
