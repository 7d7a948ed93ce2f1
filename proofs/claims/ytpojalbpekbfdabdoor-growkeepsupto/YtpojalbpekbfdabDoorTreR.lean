/- Regions that draw their order, with guards; nodes in memory. -/
import Derived.Test.YtpojalbpekbfdabDoorTreM
import Derived.Test.YtpojalbpekbfdabDoorRgnU
import Derived.Deep.MidRow
namespace Go.Proofs.YtpojalbpekbfdabDoor.RU
open Go Go.RowKit
section
variable {P : Program} {ops : Array Oper} {Q : Exit → Act → World → Prop} {a0 : Act} {cs : List Nat} {f : Nat → Value} {K : Nat → Nat} {Ω : Nat → (Nat → Value) → World → Prop}
theorem wanted_not {o og : Oper} {a : Act} {g d : Nat} {b : Bool} (h : o.guard = some (g, b)) (hg : ops[g]? = some og) (hd : og.dst = some d) (he : a.eval (.tmp d) ≠ .bool b) : Region.wanted o (yielded ops a.tmps) = false := by
  unfold Region.wanted; rw [h]
  simp only
  cases hy : yielded ops a.tmps g with
  | none => rfl
  | some x =>
    have : x ≠ b := by
      intro e; subst e
      apply he
      unfold yielded at hy
      rw [hg] at hy
      simp only [Option.bind_some, hd] at hy
      simp only [Act.eval, Array.getD_eq_getD_getElem?]
      cases hx : a.tmps[d]? with
      | none => rw [hx] at hy; simp at hy
      | some v =>
        rw [hx] at hy
        cases v <;> simp at hy
        subst hy; rfl
    cases x <;> cases b <;> first | rfl | exact absurd rfl this
theorem ObT.skip {i : Nat} {o og : Oper} {g d : Nat} {b : Bool} (hat : at' cs i = none) (ho : ops[i]? = some o) (hgd : o.guard = some (g, b)) (hog : ops[g]? = some og) (hd : og.dst = some d) (hp : predB ops i g d = true) (hv : ∀ U, val cs f U g ≠ .bool b) (hf : f i = undef) : ObT P ops Q a0 cs f K Ω i := by
  refine ObT.silent hat (fun a w k U h1 h2 h3 hk => ?_)
  have hw : Region.wanted o (yielded ops a.tmps) = false := wanted_not hgd hog hd (by rw [h3 g d hp]; exact hv U)
  unfold wpOp
  simp only [ho, hw]
  refine ⟨?_, h1⟩
  rw [hf]; rfl
end
end Go.Proofs.YtpojalbpekbfdabDoor.RU
namespace Go.Proofs.YtpojalbpekbfdabDoor
open Go Go.RowKit
set_option linter.unusedSimpArgs false
set_option linter.unusedVariables false
/-- Memory only grows. -/
def gΩ (w0 : World) : Nat → (Nat → Value) → World → Prop := fun _ _ W => Below w0.heap.size w0 W
/-- A node's cells. -/
def nc (x : Nd) : List Value := .int .i64 x.n :: (bv x.p ++ bv x.h)
theorem nc_length {x : Nd} (h : x.Ok) : (nc x).length = 65 := by simp [nc, bv_length, h.p.len, h.h.len]
theorem nc_size {x : Nd} (h : x.Ok) : (nc x).toArray.size = 65 := by simp [nc_length h]
theorem range_below {w w' : World} {b o : Nat} {cs : List Value} (h : w.rangeAt b o cs) (hb : Below w.heap.size w w') (hlt : b < w.heap.size) : w'.rangeAt b o cs := fun j v hj => (hb.cell (p := ⟨b, o + j, none⟩) hlt).trans (h j v hj)
theorem range_alloc (w : World) (l : List Value) (t : TypeId) (f : Nat × Nat) : (w.alloc (.cells l.toArray t f)).rangeAt w.heap.size 0 l := fun j v hj => by
  rw [Nat.zero_add, cell_alloc]; simpa using hj
theorem nc_n {w : World} {b o : Nat} {x : Nd} (h : w.rangeAt b o (nc x)) : w.cell? ⟨b, o, none⟩ = some (.int .i64 x.n) := h 0 _ rfl
theorem nc_p {w : World} {b o : Nat} {x : Nd} (h : w.rangeAt b o (nc x)) : w.rangeAt b (o + 1) (bv x.p) := fun j v hj => by
  have hl : j < (bv x.p).length := (List.getElem?_eq_some_iff.1 hj).1
  rw [show o + 1 + j = o + (j + 1) by omega]
  exact h (j + 1) v (by simp only [nc, List.getElem?_cons_succ]; rw [List.getElem?_append_left hl]; exact hj)
theorem nc_h {w : World} {b o : Nat} {x : Nd} (hk : x.Ok) (h : w.rangeAt b o (nc x)) : w.rangeAt b (o + 33) (bv x.h) := fun j v hj => by
  rw [show o + 33 + j = o + (j + 33) by omega]
  exact h (j + 33) v (by
    rw [show j + 33 = (j + 32) + 1 by omega]
    simp only [nc, List.getElem?_cons_succ]
    have hl : (bv x.p).length = 32 := by rw [bv_length, hk.p.len]
    rw [List.getElem?_append_right (by omega), hl, Nat.add_sub_cancel]; exact hj)
theorem size32 : (Tryd.prog.info? 25).map (·.size) = some 32 := by kernel_rfl
theorem size_nd : (Tryd.prog.info? 33).map (·.size) = some 65 := by kernel_rfl
theorem size_l32 {x : List Int} (h : L32 x) : (Tryd.prog.info? 25).map (·.size) = some (bv x).length := by rw [bv_length, h.len]; exact size32
theorem size_nc {x : Nd} (h : x.Ok) : (Tryd.prog.info? 33).map (·.size) = some (nc x).length := by rw [nc_length h]; exact size_nd
end Go.Proofs.YtpojalbpekbfdabDoor
/- Package tree: bits of labels. -/
namespace Go.Proofs.YtpojalbpekbfdabDoor
open Go Go.RowKit
set_option linter.unusedSimpArgs false
set_option linter.unusedVariables false
set_option maxRecDepth 100000

theorem and_all : (List.range 256).all (fun m => decide (bits .and .u8 (m : Int) 1 = ((m % 2 : Nat) : Int))) = true := by kernel_rfl
theorem and_one (m : Nat) (h : m < 256) : bits .and .u8 (m : Int) 1 = ((m % 2 : Nat) : Int) := of_decide_eq_true (List.all_eq_true.1 and_all m (List.mem_range.2 h))
set_option maxHeartbeats 1000000 in
theorem bit_any (x : List Int) (hx : L32 x) (i : Nat) (hi : i < 256) (w : World) :
    Calls Tryd.prog 83 #[.agg (bv x).toArray, .int .i64 (i : Int)] w fun e w' => e = .returned (.int .u8 (bt x i : Int)) ∧ Below w.heap.size w w' := by
  have s1 : (bv x).toArray.size = 32 := by simp [bv, hx.len]
  obtain ⟨A, hA⟩ : ∃ A, (bv x).toArray = A := ⟨_, rfl⟩
  obtain ⟨k, hk⟩ : ∃ k : Nat, (i : Int) / 8 = (k : Int) := ⟨i / 8, by omega⟩
  obtain ⟨r, hr⟩ : ∃ r : Nat, (i : Int) % 8 = (r : Int) := ⟨i % 8, by omega⟩
  have hk1 : k < 32 := by omega
  have hr1 : r < 8 := by omega
  have c0 : (w.alloc (.cells A 25)).cell? ⟨w.heap.size, k, none⟩ = some (.int .u8 (gi x k)) := by rw [cell_alloc, ← hA, List.getElem?_toArray]; exact bv_get x (by rw [hx.len]; exact hk1)
  have hb := hx.byt.get (i := k) (by rw [hx.len]; exact hk1)
  have HE : Hid ((bt x i : Int) = (gn x k / 2 ^ (7 - r) % 2 : Nat)) := by
    show _ = _
    unfold bt
    rw [show i / 8 = k by omega, show i % 8 = r by omega]
  have HC : Hid (gi x k = (gn x k : Int)) := hx.cast k
  have HL : Hid (gn x k < 256) := hx.lt k
  rw [hA] at s1 ⊢
  obtain ⟨z, hz⟩ : ∃ z, gi x k = z := ⟨_, rfl⟩
  rw [hz] at c0 hb HC
  clear hA hx hz
  go_enter Tryd.func83, Tryd.ntmps83
  go_wp2
  go_ret
  refine ⟨?_, (Below.refl _ w).alloc (Nat.le_refl _) _⟩
  rw [HE.out, ← and_one (gn x k / 2 ^ (7 - r)) (Nat.lt_of_le_of_lt (Nat.div_le_self _ _) HL.out), Int.natCast_ediv, ← HC.out, Int.natCast_pow]
  rfl
set_option maxHeartbeats 1000000 in
theorem lz8_any (d : Nat) (hd : d < 256) (w : World) :
    Calls Tryd.prog 81 #[.int .u8 (d : Int)] w fun e w' => e = .returned (.int .i64 (lz d : Int)) ∧ w' = w := by
  go_enter Tryd.func81, Tryd.ntmps81
  go_wp2
  go_ret
  refine ⟨congrArg (fun z => Ending.returned (Value.int .i64 z)) ?_, rfl⟩
  clear w
  revert d
  decide +kernel
end Go.Proofs.YtpojalbpekbfdabDoor
/- Package tree: common. -/
namespace Go.Proofs.YtpojalbpekbfdabDoor
open Go Go.RowKit
set_option linter.unusedSimpArgs false
set_option linter.unusedVariables false
set_option maxRecDepth 100000

theorem xor_u8 (m n : Nat) (hm : m < 256) (hn : n < 256) : bits .xor .u8 (m : Int) (n : Int) = ((m ^^^ n : Nat) : Int) := by
  show IntKind.u8.wrap ((BitVec.ofInt 8 (m : Int) ^^^ BitVec.ofInt 8 (n : Int)).toNat : Int) = _
  have h := Nat.xor_lt_two_pow (n := 8) hm hn
  rw [BitVec.toNat_xor, BitVec.ofInt_natCast, BitVec.ofInt_natCast, BitVec.toNat_ofNat, BitVec.toNat_ofNat, Nat.mod_eq_of_lt hm, Nat.mod_eq_of_lt hn, IntKind.wrap_u8]
  omega
theorem xor_zero {m n : Nat} (h : m ^^^ n = 0) : m = n := by
  have e : (m ^^^ n) ^^^ n = 0 ^^^ n := by rw [h]
  rwa [Nat.xor_assoc, Nat.xor_self, Nat.xor_zero, Nat.zero_xor] at e
set_option maxHeartbeats 2000000 in
theorem common_any (xs ys : List Int) (w : World) (h1 : L32 xs) (h2 : L32 ys) :
    Calls Tryd.prog 65 #[.agg (bv xs).toArray, .agg (bv ys).toArray] w fun e w' => e = .returned (.int .i64 (cm xs ys 256 : Int)) ∧ Below w.heap.size w w' := by
  have s1 : (bv xs).toArray.size = 32 := by simp [bv, h1.len]
  have s2 : (bv ys).toArray.size = 32 := by simp [bv, h2.len]
  obtain ⟨A, hA⟩ : ∃ A, (bv xs).toArray = A := ⟨_, rfl⟩
  obtain ⟨B, hB⟩ : ∃ B, (bv ys).toArray = B := ⟨_, rfl⟩
  have cA : Hid (∀ j, j < 32 → A[j]? = some (.int .u8 (gn xs j : Int))) := fun j hj => by rw [← hA, List.getElem?_toArray, ← h1.cast]; exact bv_get xs (by rw [h1.len]; omega)
  have cB : Hid (∀ j, j < 32 → B[j]? = some (.int .u8 (gn ys j : Int))) := fun j hj => by rw [← hB, List.getElem?_toArray, ← h2.cast]; exact bv_get ys (by rw [h2.len]; omega)
  rw [hA] at s1 ⊢
  rw [hB] at s2 ⊢
  have HB : Hid (L32 xs) := h1
  have HB' : Hid (L32 ys) := h2
  clear hA hB h1 h2
  go_enter Tryd.func65, Tryd.ntmps65
  go_wp2
  obtain ⟨W, hW⟩ : ∃ W, (w.alloc (Obj.cells A 25)).alloc (Obj.cells B 25) = W := ⟨_, rfl⟩
  have HZ : Hid (Below w.heap.size w W) := by rw [← hW]; exact ((Below.refl _ w).alloc (Nat.le_refl _) _).alloc (by simp) _
  have CA : Hid (∀ j, j < 32 → W.cell? ⟨w.heap.size, j, none⟩ = some (.int .u8 (gn xs j : Int))) := fun j hj => by
    rw [← hW, (World.grownBy_alloc (w.alloc (Obj.cells A 25)) _ none).cell (a := ⟨w.heap.size, j, none⟩) (v := .int .u8 (gn xs j : Int)) ?_ (by simp)]
    rw [cell_alloc]; exact cA.out j hj
  have CB : Hid (∀ j, j < 32 → W.cell? ⟨w.heap.size + 1, j, none⟩ = some (.int .u8 (gn ys j : Int))) := fun j hj => by
    have hz : (w.alloc (Obj.cells A 25)).heap.size = w.heap.size + 1 := by simp
    rw [← hW, ← hz, cell_alloc]; exact cB.out j hj
  rw [hW]
  clear hW cA cB
  obtain ⟨h, hh⟩ : ∃ h, w.heap.size = h := ⟨_, rfl⟩
  rw [hh] at CA CB ⊢
  have HH : Hid (w.heap.size = h) := hh
  clear hh
  go_loopw [7] (fun i wr => ∃ k q : Nat, k ≤ 32 ∧ i = .int .i64 (k : Int) ∧ wr = W.drewN q ∧ ∀ j, j < k → gn xs j = gn ys j) (fun i _ => 32 - (intOf i).toNat)
  case atStart => exact ⟨0, 0, by omega, rfl, rfl, fun j hj => by omega⟩
  case round =>
    obtain ⟨k, q, hk, rfl, rfl, hall⟩ := hrel
    have HA : Hid (∀ j, j < k → gn xs j = gn ys j) := hall
    clear hall
    by_cases hlt : k < 32
    · have c1 : ∀ n, (W.drewN n).cell? ⟨h, k, none⟩ = some (.int .u8 (gn xs k : Int)) := fun n => CA.out k hlt
      have c2 : ∀ n, (W.drewN n).cell? ⟨h + 1, k, none⟩ = some (.int .u8 (gn ys k : Int)) := fun n => CB.out k hlt
      have c1' := CA.out k hlt
      have c2' := CB.out k hlt
      have gk : (k : Int) < 32 := by omega
      have gk0 : (0 : Int) ≤ (k : Int) := by omega
      have hxr := xor_u8 (gn xs k) (gn ys k) (HB.out.lt k) (HB'.out.lt k)
      obtain ⟨d, hd⟩ : ∃ d, gn xs k ^^^ gn ys k = d := ⟨_, rfl⟩
      have hd2 : d < 256 := by rw [← hd]; exact Nat.xor_lt_two_pow (n := 8) (HB.out.lt k) (HB'.out.lt k)
      have HD : Hid (gn xs k ^^^ gn ys k = d) := hd
      rw [hd] at hxr
      by_cases he : d = 0
      · have HE : Hid (gn xs k = gn ys k) := xor_zero (hd.trans he)
        subst he
        clear hd
        go_wp2
        go_quiet (fail)
        go_wp2
        refine ⟨⟨k + 1, q + nq, hlt, by go_num, by simp, fun j hj => ?_⟩, by simp [intOf]; omega⟩
        by_cases e : j = k
        · subst e; exact HE.out
        · exact HA.out j (by omega)
      · have E : Hid (cm xs ys 256 = 8 * k + lz d) := by
          have := cm_byte HB.out HB'.out hlt HA.out (by rw [hd]; exact he)
          rw [hd] at this; exact this
        have hdi : ¬ ((d : Int) = 0) := by omega
        obtain ⟨z, hz⟩ : ∃ z, lz d = z := ⟨_, rfl⟩
        have hz8 : z < 8 := by rw [← hz]; exact (lz_spec he hd2).1
        have HLZ : Hid (∀ W : World, Calls Tryd.prog 81 #[.int .u8 (d : Int)] W fun e w' => e = .returned (.int .i64 (z : Int)) ∧ w' = W) := fun W => by rw [← hz]; exact lz8_any d hd2 W
        rw [hz] at E
        clear hd hz
        go_wp2
        go_quiet (fail)
        go_wp2_with (go_at_call 81; refine (HLZ.out _).mono ?_; rintro e w' ⟨rfl, rfl⟩)
        go_ret
        exact ⟨by rw [E.out]; go_num, by simpa using below_drewN HZ.out _⟩
    · have E : Hid (cm xs ys 256 = 256) := cm_all HB.out HB'.out (fun j hj => HA.out j (by omega))
      go_wp2
      go_ret
      exact ⟨by rw [E.out]; rfl, below_drewN HZ.out q⟩
end Go.Proofs.YtpojalbpekbfdabDoor
