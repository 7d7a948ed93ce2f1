/- DiskFull, walked. -/
import Derived.Test.YtmlialabdijcoaaDskL
namespace Go.Proofs.Ytmlialabdijcoaa
open Go Go.RowKit
set_option linter.unusedSimpArgs false
set_option linter.unusedVariables false
set_option maxRecDepth 100000

def fΩ (w0 : World) (bx bY : Nat) (b : Int) (k : Nat) (U : Nat → Value) (w : World) : Prop :=
  Below w0.heap.size w0 w ∧ w.rangeAt bx 0 (bv (fill b)) ∧ w.rangeAt bY 0 (bv (fill ((b + 2) % 256))) ∧ (bx < w.heap.size ∧ bY < w.heap.size) ∧ (0 < k → U 0 = .agg (bv (fill b)).toArray) ∧ (1 < k → U 1 = .agg (bv (fill ((b + 2) % 256))).toArray)
theorem fΩ.val0 {w0 w : World} {bx bY k : Nat} {b : Int} {U : Nat → Value} (h : fΩ w0 bx bY b k U w) (hk : 0 < k) : U 0 = .agg (bv (fill b)).toArray := h.2.2.2.2.1 hk
theorem fΩ.val1 {w0 w : World} {bx bY k : Nat} {b : Int} {U : Nat → Value} (h : fΩ w0 bx bY b k U w) (hk : 1 < k) : U 1 = .agg (bv (fill ((b + 2) % 256))).toArray := h.2.2.2.2.2 hk
theorem fΩ.step0 {w0 w w' : World} {bx bY : Nat} {b : Int} {U : Nat → Value} (h : fΩ w0 bx bY b 0 U w) (hb : Below w.heap.size w w') : fΩ w0 bx bY b 1 (RT.updU U 0 (.agg (bv (fill b)).toArray)) w' :=
  ⟨h.1.trans (hb.mono h.1.size), range_below h.2.1 h.2.2.2.1.1 hb, range_below h.2.2.1 h.2.2.2.1.2 hb, ⟨Nat.lt_of_lt_of_le h.2.2.2.1.1 hb.size, Nat.lt_of_lt_of_le h.2.2.2.1.2 hb.size⟩, fun _ => rfl, fun e => by omega⟩
theorem fΩ.step1 {w0 w w' : World} {bx bY : Nat} {b : Int} {U : Nat → Value} (h : fΩ w0 bx bY b 1 U w) (hb : Below w.heap.size w w') : fΩ w0 bx bY b 2 (RT.updU U 1 (.agg (bv (fill ((b + 2) % 256))).toArray)) w' :=
  ⟨h.1.trans (hb.mono h.1.size), range_below h.2.1 h.2.2.2.1.1 hb, range_below h.2.2.1 h.2.2.2.1.2 hb, ⟨Nat.lt_of_lt_of_le h.2.2.2.1.1 hb.size, Nat.lt_of_lt_of_le h.2.2.2.1.2 hb.size⟩, fun _ => h.val0 (by omega), fun _ => rfl⟩
def ff (b : Int) : Nat → Value
  | 0 => .int .i64 0
  | 1 => .bool true
  | 2 => .bool true
  | 3 => .int .i64 5
  | 4 => .bool true
  | 5 => .bool true
  | 6 => .bool true
  | 7 => .int .i64 0
  | 8 => .bool true
  | 9 => .bool true
  | 10 => .bool true
  | 11 => .int .i64 0
  | 12 => .bool true
  | 13 => .bool true
  | 14 => .bool true
  | 15 => .agg (bv (fill b)).toArray
  | 16 => .int .u8 b
  | 18 => .bool true
  | 19 => .bool true
  | 20 => .bool true
  | 21 => .int .i64 0
  | 22 => .bool true
  | 23 => .bool true
  | 24 => .bool true
  | 25 => .int .i64 0
  | 26 => .bool true
  | 27 => .bool true
  | 28 => .bool true
  | 29 => .agg (bv (fill ((b + 2) % 256))).toArray
  | 30 => .int .u8 b
  | 31 => .int .u8 ((b + 2) % 256)
  | 33 => .bool true
  | 34 => .bool true
  | 35 => .bool true
  | _ => undef
def fs1 (k : Nat) (b : Int) : Dk := { dk0 256 with wt := [(k, fill b)] }
def fs2 (k : Nat) (b : Int) : Dk := { dk0 256 with wt := [(k, fill b)], fu := true }
def fs3 (k : Nat) (b : Int) : Dk := { dk0 256 with st := upd (fun _ => z64) k (fill b), fu := true }
def fs4 (k : Nat) (b : Int) : Dk := { dk0 256 with st := upd (fun _ => z64) k (fill b) }
def fs5 (k : Nat) (b : Int) : Dk := { dk0 256 with st := upd (fun _ => z64) k (fill b), wt := [(k, fill ((b + 2) % 256))] }
theorem full_facts (k : Nat) (hk : k < 256) (b : Int) : (wrE (dk0 256) (k : Int) = 0 ∧ wrS (dk0 256) (k : Int) (fill b) = fs1 k b) ∧ (wrE (fs2 k b) (k : Int) = 5 ∧ ∀ x, wrS (fs2 k b) (k : Int) x = fs2 k b) ∧ (syE (fs2 k b) = 0 ∧ syS (fs2 k b) = fs3 k b) ∧ (rdE (fs3 k b) (k : Int) = 0 ∧ rdV (fs3 k b) (k : Int) = fill b) ∧ (wrE (fs4 k b) (k : Int) = 0 ∧ wrS (fs4 k b) (k : Int) (fill ((b + 2) % 256)) = fs5 k b) ∧ (rdE (fs5 k b) (k : Int) = 0 ∧ rdV (fs5 k b) (k : Int) = fill ((b + 2) % 256)) := by
  have hh : hasB 256 (k : Int) = true := by unfold hasB; simp; omega
  refine ⟨⟨?_, ?_⟩, ⟨?_, fun x => ?_⟩, ⟨rfl, rfl⟩, ⟨?_, ?_⟩, ⟨?_, ?_⟩, ⟨?_, ?_⟩⟩
  · simp only [wrE, dk0, hh]; rfl
  · simp only [wrS, dk0, hh]; rfl
  · simp only [wrE, fs2, dk0, hh]; rfl
  · simp only [wrS, fs2, dk0, hh]; rfl
  · simp only [rdE, fs3, dk0, hh]
  · simp only [rdV, fs3, dk0, hh]; simp [look, upd]
  · simp only [wrE, fs4, dk0, hh]; rfl
  · simp only [wrS, fs4, dk0, hh]; rfl
  · simp only [rdE, fs5, dk0, hh]
  · simp only [rdV, fs5, dk0, hh]; simp [look, upd]
set_option maxHeartbeats 4000000 in
theorem diskFull_walk (k b : Int) (hk : 0 ≤ k ∧ k ≤ 255) (hb : 0 ≤ b ∧ b ≤ 255) (w : World) : Calls Try.prog 6 #[.int .u8 k, .int .u8 b] w fun e w' => e = .returned (.bool true) ∧ Below w.heap.size w w' := by
  obtain ⟨k, rfl⟩ : ∃ n : Nat, k = (n : Int) := ⟨k.toNat, by omega⟩
  have HF : Hid _ := full_facts k (by omega) b
  obtain ⟨hb0, hb1⟩ := hb
  obtain ⟨hk0, hk1⟩ := hk
  have hz := zero_sec
  go_enter Try.func6, Try.ntmps6
  go_wp2_with fail
  refine (awake_any w).mono ?_
  rintro e w1 ⟨rfl, h1⟩
  have B1 : Hid (Below w.heap.size w w1) := h1
  clear h1
  go_wp2_with fail
  refine (new_any w1 256 (by decide) (by decide)).mono ?_
  rintro e w2 ⟨g, rfl, h2⟩
  have A2 : Hid (Ax (fun b => b < w.heap.size) w w2 g (dk0 256)) := h2.ax ⟨B1.out.os, B1.out.tape, B1.out.output, B1.out.size, fun c hc => B1.out.block c hc⟩ (fun c hc => Nat.lt_of_lt_of_le hc B1.out.size)
  clear h2
  go_wp2_with fail
  refine (filled_any b ⟨hb0, hb1⟩ w2).mono ?_
  rintro e w3 ⟨rfl, h3⟩
  have A3 : Hid (Ax (fun b => b < w.heap.size) w w3 g (dk0 256)) := A2.out.below h3
  clear h3
  go_wp2_with fail
  refine (A3.out.write (k : Int) (fill b) (fill_length b) (by decide)).mono ?_
  rintro e w4 ⟨rfl, h4⟩
  rw [HF.out.1.2] at h4
  rw [HF.out.1.1]
  have A4 : Hid (Ax (fun b => b < w.heap.size) w w4 g (fs1 k b)) := h4
  clear h4
  go_wp2_with fail
  refine (A4.out.setFull true).mono ?_
  rintro e w5 ⟨rfl, h5⟩
  have A5 : Hid (Ax (fun b => b < w.heap.size) w w5 g (fs2 k b)) := h5
  clear h5
  go_wp2_with fail
  refine (filled_any ((b + 1) % 256) ⟨by omega, by omega⟩ w5).mono ?_
  rintro e w6 ⟨rfl, h6⟩
  have A6 : Hid (Ax (fun b => b < w.heap.size) w w6 g (fs2 k b)) := A5.out.below h6
  clear h6
  go_wp2_with fail
  refine (A6.out.write (k : Int) (fill ((b + 1) % 256)) (fill_length _) (by show 2 * 72 ≤ _; decide)).mono ?_
  rintro e w7 ⟨rfl, h7⟩
  rw [HF.out.2.1.2] at h7
  rw [HF.out.2.1.1]
  have A7 : Hid (Ax (fun b => b < w.heap.size) w w7 g (fs2 k b)) := h7
  clear h7
  go_wp2_with fail
  refine (A7.out.sync).mono ?_
  rintro e w8 ⟨rfl, h8⟩
  rw [HF.out.2.2.1.2] at h8
  rw [HF.out.2.2.1.1]
  have A8 : Hid (Ax (fun b => b < w.heap.size) w w8 g (fs3 k b)) := h8
  clear h8
  go_wp2_with fail
  refine (A8.out.read (k : Int)).mono ?_
  rintro e w9 ⟨rfl, h9⟩
  rw [HF.out.2.2.2.1.2, HF.out.2.2.2.1.1]
  have A9 : Hid (Ax (fun b => b < w.heap.size) w w9 g (fs3 k b)) := h9
  clear h9
  have B9 : Hid (Below w.heap.size w w9) := A9.out.kept.below (fun _ h => h)
  go_wp2_with (refine wpList_store_mid rfl 35 _ _ rfl w9.heap.size 0 (bv (fill b)).toArray rfl rfl (lay_there w9 (fill_length b)) (size_sec (fill_length b)) (bv_one' _) ?_; generalize hW : World.setCells _ _ _ _ = W1; have L1 := A9.out.row (fill_length b) hW; clear hW; generalize hbx : w9.heap.size = bx at L1 ⊢; have HBX : Hid (w9.heap.size = bx) := hbx; clear hbx)
  have BW1 : Hid (Below w.heap.size w W1) := B9.out.trans (L1.out.2.2.2.mono (by rw [← HBX.out]; exact B9.out.size))
  refine (L1.out.1.setFull false).mono ?_
  rintro e w10 ⟨rfl, h10⟩
  generalize hX1 : (fun c => c < w.heap.size ∨ (bx ≤ c ∧ c < W1.heap.size)) = X1 at h10
  have HX1 : Hid (∀ c, c < w.heap.size ∨ c = bx → X1 c) := fun c hc => by
    subst hX1
    rcases hc with hc | hc
    · exact .inl hc
    · subst hc; exact .inr ⟨Nat.le_refl _, L1.out.2.2.1⟩
  clear hX1
  have A10 : Hid (Ax X1 W1 w10 g (fs4 k b)) := h10
  clear h10
  go_wp2_with fail
  refine (filled_any ((b + 2) % 256) ⟨by omega, by omega⟩ w10).mono ?_
  rintro e w11 ⟨rfl, h11⟩
  have A11 : Hid (Ax X1 W1 w11 g (fs4 k b)) := A10.out.below h11
  clear h11
  go_wp2_with fail
  refine (A11.out.write (k : Int) (fill ((b + 2) % 256)) (fill_length _) (by show 1 * 72 ≤ _; decide)).mono ?_
  rintro e w12 ⟨rfl, h12⟩
  rw [HF.out.2.2.2.2.1.2] at h12
  rw [HF.out.2.2.2.2.1.1]
  have A12 : Hid (Ax X1 W1 w12 g (fs5 k b)) := h12
  clear h12
  go_wp2_with fail
  refine (A12.out.read (k : Int)).mono ?_
  rintro e w13 ⟨rfl, h13⟩
  rw [HF.out.2.2.2.2.2.2, HF.out.2.2.2.2.2.1]
  have A13 : Hid (Ax X1 W1 w13 g (fs5 k b)) := h13
  clear h13
  have R13 : Hid (w13.rangeAt bx 0 (bv (fill b)) ∧ bx < w13.heap.size ∧ Below w.heap.size w w13) := ⟨A13.out.kept.range (HX1.out bx (.inr rfl)) L1.out.2.1, A13.out.lt (HX1.out bx (.inr rfl)), BW1.out.trans (A13.out.kept.below (fun c hc => HX1.out c (.inl hc)))⟩
  go_wp2_with (refine wpList_store_mid rfl 35 _ _ rfl w13.heap.size 0 (bv (fill ((b + 2) % 256))).toArray rfl rfl (lay_there w13 (fill_length _)) (size_sec (fill_length _)) (bv_one' _) ?_; generalize hW : World.setCells _ _ _ _ = W2; have L2 := A13.out.row (fill_length _) hW; clear hW; have R2 : Hid (W2.rangeAt bx 0 (bv (fill b)) ∧ bx < W2.heap.size ∧ Below w.heap.size w W2) := ⟨range_below R13.out.1 R13.out.2.1 L2.out.2.2.2, Nat.lt_of_lt_of_le R13.out.2.1 L2.out.2.2.2.size, R13.out.2.2.trans (L2.out.2.2.2.mono R13.out.2.2.size)⟩; generalize hby : w13.heap.size = bY at L2 ⊢; clear hby)
  refine RT.wp_rgn [17, 32] (ff b) (fun _ => 2) (fΩ W2 bx bY b) (by kernel_rfl) (by kernel_rfl) ?_ ?_ ?_
  · exact ⟨⟨rfl, rfl, rfl, Nat.le_refl _, fun _ _ => rfl⟩, fun j u hu => R2.out.1 j u hu, fun j u hu => L2.out.2.1 j u hu, ⟨R2.out.2.1, L2.out.2.2.1⟩, fun e => by omega, fun e => by omega⟩
  · refine ⟨?_, ?_, ?_, ?_, ?_, ?_, ?_, ?_, ?_, ?_, ?_, ?_, ?_, ?_, ?_, ?_, ?_, ?_, ?_, ?_, ?_, ?_, ?_, ?_, ?_, ?_, ?_, ?_, ?_, ?_, ?_, ?_, ?_, ?_, ?_, ?_, trivial⟩
    · refine RT.ObT.pure rfl rfl rfl (fun a U hf hp ev he hc W => ?_)
      have q7 : ev (.tmp 7) = .int .i64 0 := (he (.tmp 7)).trans (hf 7 rfl)
      simp only [List.getElem_toArray, List.getElem_cons_succ, List.getElem_cons_zero, execOp]; rw [q7]
      first | rfl | (go_simp; done) | (go_simp; rfl)
    · refine RT.ObT.pure rfl rfl rfl (fun a U hf hp ev he hc W => ?_)
      have q63 : ev (.tmp 63) = .int .i64 0 := (he (.tmp 63)).trans (hp 0 63 rfl)
      simp only [List.getElem_toArray, List.getElem_cons_succ, List.getElem_cons_zero, execOp]; rw [q63]; simp only [hc]
      first | rfl | (go_simp; done) | (go_simp; rfl)
    · refine RT.ObT.pure rfl rfl rfl (fun a U hf hp ev he hc W => ?_)
      have q64 : ev (.tmp 64) = .bool true := (he (.tmp 64)).trans (hp 1 64 rfl)
      simp only [List.getElem_toArray, List.getElem_cons_succ, List.getElem_cons_zero, execOp]; rw [q64]
      first | rfl | (go_simp; done) | (go_simp; rfl)
    · refine RT.ObT.silent rfl (fun a W k0 U hO hf hp hk => ?_)
      have hg : a.eval (.tmp 65) = .bool true := hp 2 65 rfl
      refine RT.ob_val rfl (RT.wanted_some rfl rfl rfl hg) (fun ev he hc => ?_) ⟨rfl, hO⟩
      have q8 : ev (.tmp 8) = .int .i64 5 := (he (.tmp 8)).trans (hf 8 rfl)
      simp only [List.getElem_toArray, List.getElem_cons_succ, List.getElem_cons_zero, execOp]; rw [q8]
      first | rfl | (go_simp; done) | (go_simp; rfl)
    · refine RT.ObT.silent rfl (fun a W k0 U hO hf hp hk => ?_)
      have hg : a.eval (.tmp 65) = .bool true := hp 2 65 rfl
      refine RT.ob_val rfl (RT.wanted_some rfl rfl rfl hg) (fun ev he hc => ?_) ⟨rfl, hO⟩
      have q66 : ev (.tmp 66) = .int .i64 5 := (he (.tmp 66)).trans (hp 3 66 rfl)
      simp only [List.getElem_toArray, List.getElem_cons_succ, List.getElem_cons_zero, execOp]; rw [q66]; simp only [hc]
      first | rfl | (go_simp; done) | (go_simp; rfl)
    · refine RT.ObT.pure rfl rfl rfl (fun a U hf hp ev he hc W => ?_)
      have q65 : ev (.tmp 65) = .bool true := (he (.tmp 65)).trans (hp 2 65 rfl)
      have q67 : ev (.tmp 67) = .bool true := (he (.tmp 67)).trans (hp 4 67 rfl)
      simp only [List.getElem_toArray, List.getElem_cons_succ, List.getElem_cons_zero, execOp]; rw [q65, q67]; simp only [hc]
      first | rfl | (go_simp; done) | (go_simp; rfl)
    · refine RT.ObT.pure rfl rfl rfl (fun a U hf hp ev he hc W => ?_)
      have q68 : ev (.tmp 68) = .bool true := (he (.tmp 68)).trans (hp 5 68 rfl)
      simp only [List.getElem_toArray, List.getElem_cons_succ, List.getElem_cons_zero, execOp]; rw [q68]
      first | rfl | (go_simp; done) | (go_simp; rfl)
    · refine RT.ObT.silent rfl (fun a W k0 U hO hf hp hk => ?_)
      have hg : a.eval (.tmp 69) = .bool true := hp 6 69 rfl
      refine RT.ob_val rfl (RT.wanted_some rfl rfl rfl hg) (fun ev he hc => ?_) ⟨rfl, hO⟩
      have q9 : ev (.tmp 9) = .int .i64 0 := (he (.tmp 9)).trans (hf 9 rfl)
      simp only [List.getElem_toArray, List.getElem_cons_succ, List.getElem_cons_zero, execOp]; rw [q9]
      first | rfl | (go_simp; done) | (go_simp; rfl)
    · refine RT.ObT.silent rfl (fun a W k0 U hO hf hp hk => ?_)
      have hg : a.eval (.tmp 69) = .bool true := hp 6 69 rfl
      refine RT.ob_val rfl (RT.wanted_some rfl rfl rfl hg) (fun ev he hc => ?_) ⟨rfl, hO⟩
      have q70 : ev (.tmp 70) = .int .i64 0 := (he (.tmp 70)).trans (hp 7 70 rfl)
      simp only [List.getElem_toArray, List.getElem_cons_succ, List.getElem_cons_zero, execOp]; rw [q70]; simp only [hc]
      first | rfl | (go_simp; done) | (go_simp; rfl)
    · refine RT.ObT.pure rfl rfl rfl (fun a U hf hp ev he hc W => ?_)
      have q69 : ev (.tmp 69) = .bool true := (he (.tmp 69)).trans (hp 6 69 rfl)
      have q71 : ev (.tmp 71) = .bool true := (he (.tmp 71)).trans (hp 8 71 rfl)
      simp only [List.getElem_toArray, List.getElem_cons_succ, List.getElem_cons_zero, execOp]; rw [q69, q71]; simp only [hc]
      first | rfl | (go_simp; done) | (go_simp; rfl)
    · refine RT.ObT.pure rfl rfl rfl (fun a U hf hp ev he hc W => ?_)
      have q72 : ev (.tmp 72) = .bool true := (he (.tmp 72)).trans (hp 9 72 rfl)
      simp only [List.getElem_toArray, List.getElem_cons_succ, List.getElem_cons_zero, execOp]; rw [q72]
      first | rfl | (go_simp; done) | (go_simp; rfl)
    · refine RT.ObT.silent rfl (fun a W k0 U hO hf hp hk => ?_)
      have hg : a.eval (.tmp 73) = .bool true := hp 10 73 rfl
      refine RT.ob_val rfl (RT.wanted_some rfl rfl rfl hg) (fun ev he hc => ?_) ⟨rfl, hO⟩
      have q11 : ev (.tmp 11) = .int .i64 0 := (he (.tmp 11)).trans (hf 11 rfl)
      simp only [List.getElem_toArray, List.getElem_cons_succ, List.getElem_cons_zero, execOp]; rw [q11]
      first | rfl | (go_simp; done) | (go_simp; rfl)
    · refine RT.ObT.silent rfl (fun a W k0 U hO hf hp hk => ?_)
      have hg : a.eval (.tmp 73) = .bool true := hp 10 73 rfl
      refine RT.ob_val rfl (RT.wanted_some rfl rfl rfl hg) (fun ev he hc => ?_) ⟨rfl, hO⟩
      have q74 : ev (.tmp 74) = .int .i64 0 := (he (.tmp 74)).trans (hp 11 74 rfl)
      simp only [List.getElem_toArray, List.getElem_cons_succ, List.getElem_cons_zero, execOp]; rw [q74]; simp only [hc]
      first | rfl | (go_simp; done) | (go_simp; rfl)
    · refine RT.ObT.pure rfl rfl rfl (fun a U hf hp ev he hc W => ?_)
      have q73 : ev (.tmp 73) = .bool true := (he (.tmp 73)).trans (hp 10 73 rfl)
      have q75 : ev (.tmp 75) = .bool true := (he (.tmp 75)).trans (hp 12 75 rfl)
      simp only [List.getElem_toArray, List.getElem_cons_succ, List.getElem_cons_zero, execOp]; rw [q73, q75]; simp only [hc]
      first | rfl | (go_simp; done) | (go_simp; rfl)
    · refine RT.ObT.pure rfl rfl rfl (fun a U hf hp ev he hc W => ?_)
      have q76 : ev (.tmp 76) = .bool true := (he (.tmp 76)).trans (hp 13 76 rfl)
      simp only [List.getElem_toArray, List.getElem_cons_succ, List.getElem_cons_zero, execOp]; rw [q76]
      first | rfl | (go_simp; done) | (go_simp; rfl)
    · refine RT.ObT.silent rfl (fun a W k0 U hO hf hp hk => ?_)
      have hg : a.eval (.tmp 77) = .bool true := hp 14 77 rfl
      refine RT.ob_op rfl (RT.wanted_some rfl rfl rfl hg) (wp_load_mid 35 (.tmp 10) rfl bx 0 (hf 10 rfl) (bv (fill b)) _ hO.2.1 Try.underlying35 rfl (by rw [bv_length, fill_length]; exact size64) ⟨rfl, hO⟩)
    · refine RT.ObT.silent rfl (fun a W k0 U hO hf hp hk => ?_)
      have hg : a.eval (.tmp 77) = .bool true := hp 14 77 rfl
      refine RT.ob_val rfl (RT.wanted_some rfl rfl rfl hg) (fun ev he hc => ?_) ⟨rfl, hO⟩
      have q1 : ev (.tmp 1) = .int .u8 b := (he (.tmp 1)).trans (hf 1 rfl)
      simp only [List.getElem_toArray, List.getElem_cons_succ, List.getElem_cons_zero, execOp]; rw [q1]
      first | rfl | (go_simp; done) | (go_simp; rfl)
    · refine RT.ObT.loud (j := 0) rfl (fun a W U hO hf hp => ?_)
      have hg : a.eval (.tmp 77) = .bool true := hp 14 77 rfl
      refine RT.ob_call (g := 13) (args := #[.int .u8 (b)]) rfl (RT.wanted_some rfl rfl rfl hg) (fun ev he hc => ?_) ((filled_any (b) ⟨hb0, hb1⟩ W).mono ?_)
      · have e1 : ev (.tmp 79) = .int .u8 (b) := (he (.tmp 79)).trans (hp 16 79 rfl)
        simp only [List.getElem_toArray, List.getElem_cons_succ, List.getElem_cons_zero, execOp]
        simp only [resolve, invoke, builtin, Sem.run_bind, Sem.run_pure, Result.andThen_ok, List.map_toArray, List.map_cons, List.map_nil, e1, he, Act.eval]
        rfl
      · rintro e w' ⟨rfl, h1⟩
        exact ⟨_, rfl, _, rfl, hO.step0 h1⟩
    · refine RT.ObT.silent' rfl (fun a W k0 U hO hf hp hl hk => ?_)
      have hg : a.eval (.tmp 77) = .bool true := hp 14 77 rfl
      have hj := hl 0 rfl
      refine RT.ob_val rfl (RT.wanted_some rfl rfl rfl hg) (fun ev he hc => ?_) ⟨rfl, hO⟩
      have q1 : ev (.tmp 78) = .agg (bv (fill b)).toArray := (he (.tmp 78)).trans (hp 15 78 rfl)
      have q2 : ev (.tmp 80) = U 0 := (he (.tmp 80)).trans (hp 17 80 rfl)
      rw [hO.val0 hj] at q2
      have heq := eq_sec (fill b) (fill_length _)
      simp only [List.getElem_toArray, List.getElem_cons_succ, List.getElem_cons_zero, execOp]; rw [q1, q2]; go_simp; rfl
    · refine RT.ObT.pure rfl rfl rfl (fun a U hf hp ev he hc W => ?_)
      have q77 : ev (.tmp 77) = .bool true := (he (.tmp 77)).trans (hp 14 77 rfl)
      have q81 : ev (.tmp 81) = .bool true := (he (.tmp 81)).trans (hp 18 81 rfl)
      simp only [List.getElem_toArray, List.getElem_cons_succ, List.getElem_cons_zero, execOp]; rw [q77, q81]; simp only [hc]
      first | rfl | (go_simp; done) | (go_simp; rfl)
    · refine RT.ObT.pure rfl rfl rfl (fun a U hf hp ev he hc W => ?_)
      have q82 : ev (.tmp 82) = .bool true := (he (.tmp 82)).trans (hp 19 82 rfl)
      simp only [List.getElem_toArray, List.getElem_cons_succ, List.getElem_cons_zero, execOp]; rw [q82]
      first | rfl | (go_simp; done) | (go_simp; rfl)
    · refine RT.ObT.silent rfl (fun a W k0 U hO hf hp hk => ?_)
      have hg : a.eval (.tmp 83) = .bool true := hp 20 83 rfl
      refine RT.ob_val rfl (RT.wanted_some rfl rfl rfl hg) (fun ev he hc => ?_) ⟨rfl, hO⟩
      have q12 : ev (.tmp 12) = .int .i64 0 := (he (.tmp 12)).trans (hf 12 rfl)
      simp only [List.getElem_toArray, List.getElem_cons_succ, List.getElem_cons_zero, execOp]; rw [q12]
      first | rfl | (go_simp; done) | (go_simp; rfl)
    · refine RT.ObT.silent rfl (fun a W k0 U hO hf hp hk => ?_)
      have hg : a.eval (.tmp 83) = .bool true := hp 20 83 rfl
      refine RT.ob_val rfl (RT.wanted_some rfl rfl rfl hg) (fun ev he hc => ?_) ⟨rfl, hO⟩
      have q84 : ev (.tmp 84) = .int .i64 0 := (he (.tmp 84)).trans (hp 21 84 rfl)
      simp only [List.getElem_toArray, List.getElem_cons_succ, List.getElem_cons_zero, execOp]; rw [q84]; simp only [hc]
      first | rfl | (go_simp; done) | (go_simp; rfl)
    · refine RT.ObT.pure rfl rfl rfl (fun a U hf hp ev he hc W => ?_)
      have q83 : ev (.tmp 83) = .bool true := (he (.tmp 83)).trans (hp 20 83 rfl)
      have q85 : ev (.tmp 85) = .bool true := (he (.tmp 85)).trans (hp 22 85 rfl)
      simp only [List.getElem_toArray, List.getElem_cons_succ, List.getElem_cons_zero, execOp]; rw [q83, q85]; simp only [hc]
      first | rfl | (go_simp; done) | (go_simp; rfl)
    · refine RT.ObT.pure rfl rfl rfl (fun a U hf hp ev he hc W => ?_)
      have q86 : ev (.tmp 86) = .bool true := (he (.tmp 86)).trans (hp 23 86 rfl)
      simp only [List.getElem_toArray, List.getElem_cons_succ, List.getElem_cons_zero, execOp]; rw [q86]
      first | rfl | (go_simp; done) | (go_simp; rfl)
    · refine RT.ObT.silent rfl (fun a W k0 U hO hf hp hk => ?_)
      have hg : a.eval (.tmp 87) = .bool true := hp 24 87 rfl
      refine RT.ob_val rfl (RT.wanted_some rfl rfl rfl hg) (fun ev he hc => ?_) ⟨rfl, hO⟩
      have q14 : ev (.tmp 14) = .int .i64 0 := (he (.tmp 14)).trans (hf 14 rfl)
      simp only [List.getElem_toArray, List.getElem_cons_succ, List.getElem_cons_zero, execOp]; rw [q14]
      first | rfl | (go_simp; done) | (go_simp; rfl)
    · refine RT.ObT.silent rfl (fun a W k0 U hO hf hp hk => ?_)
      have hg : a.eval (.tmp 87) = .bool true := hp 24 87 rfl
      refine RT.ob_val rfl (RT.wanted_some rfl rfl rfl hg) (fun ev he hc => ?_) ⟨rfl, hO⟩
      have q88 : ev (.tmp 88) = .int .i64 0 := (he (.tmp 88)).trans (hp 25 88 rfl)
      simp only [List.getElem_toArray, List.getElem_cons_succ, List.getElem_cons_zero, execOp]; rw [q88]; simp only [hc]
      first | rfl | (go_simp; done) | (go_simp; rfl)
    · refine RT.ObT.pure rfl rfl rfl (fun a U hf hp ev he hc W => ?_)
      have q87 : ev (.tmp 87) = .bool true := (he (.tmp 87)).trans (hp 24 87 rfl)
      have q89 : ev (.tmp 89) = .bool true := (he (.tmp 89)).trans (hp 26 89 rfl)
      simp only [List.getElem_toArray, List.getElem_cons_succ, List.getElem_cons_zero, execOp]; rw [q87, q89]; simp only [hc]
      first | rfl | (go_simp; done) | (go_simp; rfl)
    · refine RT.ObT.pure rfl rfl rfl (fun a U hf hp ev he hc W => ?_)
      have q90 : ev (.tmp 90) = .bool true := (he (.tmp 90)).trans (hp 27 90 rfl)
      simp only [List.getElem_toArray, List.getElem_cons_succ, List.getElem_cons_zero, execOp]; rw [q90]
      first | rfl | (go_simp; done) | (go_simp; rfl)
    · refine RT.ObT.silent rfl (fun a W k0 U hO hf hp hk => ?_)
      have hg : a.eval (.tmp 91) = .bool true := hp 28 91 rfl
      refine RT.ob_op rfl (RT.wanted_some rfl rfl rfl hg) (wp_load_mid 35 (.tmp 13) rfl bY 0 (hf 13 rfl) (bv (fill ((b + 2) % 256))) _ hO.2.2.1 Try.underlying35 rfl (by rw [bv_length, fill_length]; exact size64) ⟨rfl, hO⟩)
    · refine RT.ObT.silent rfl (fun a W k0 U hO hf hp hk => ?_)
      have hg : a.eval (.tmp 91) = .bool true := hp 28 91 rfl
      refine RT.ob_val rfl (RT.wanted_some rfl rfl rfl hg) (fun ev he hc => ?_) ⟨rfl, hO⟩
      have q1 : ev (.tmp 1) = .int .u8 b := (he (.tmp 1)).trans (hf 1 rfl)
      simp only [List.getElem_toArray, List.getElem_cons_succ, List.getElem_cons_zero, execOp]; rw [q1]
      first | rfl | (go_simp; done) | (go_simp; rfl)
    · refine RT.ObT.silent rfl (fun a W k0 U hO hf hp hk => ?_)
      have hg : a.eval (.tmp 91) = .bool true := hp 28 91 rfl
      refine RT.ob_val rfl (RT.wanted_some rfl rfl rfl hg) (fun ev he hc => ?_) ⟨rfl, hO⟩
      have q93 : ev (.tmp 93) = .int .u8 b := (he (.tmp 93)).trans (hp 30 93 rfl)
      simp only [List.getElem_toArray, List.getElem_cons_succ, List.getElem_cons_zero, execOp]; rw [q93]; simp only [hc]
      first | rfl | (go_simp; done) | (go_simp; rfl)
    · refine RT.ObT.loud (j := 1) rfl (fun a W U hO hf hp => ?_)
      have hg : a.eval (.tmp 91) = .bool true := hp 28 91 rfl
      refine RT.ob_call (g := 13) (args := #[.int .u8 ((b + 2) % 256)]) rfl (RT.wanted_some rfl rfl rfl hg) (fun ev he hc => ?_) ((filled_any ((b + 2) % 256) ⟨by omega, by omega⟩ W).mono ?_)
      · have e1 : ev (.tmp 94) = .int .u8 ((b + 2) % 256) := (he (.tmp 94)).trans (hp 31 94 rfl)
        simp only [List.getElem_toArray, List.getElem_cons_succ, List.getElem_cons_zero, execOp]
        simp only [resolve, invoke, builtin, Sem.run_bind, Sem.run_pure, Result.andThen_ok, List.map_toArray, List.map_cons, List.map_nil, e1, he, Act.eval]
        rfl
      · rintro e w' ⟨rfl, h1⟩
        exact ⟨_, rfl, _, rfl, hO.step1 h1⟩
    · refine RT.ObT.silent' rfl (fun a W k0 U hO hf hp hl hk => ?_)
      have hg : a.eval (.tmp 91) = .bool true := hp 28 91 rfl
      have hj := hl 1 rfl
      refine RT.ob_val rfl (RT.wanted_some rfl rfl rfl hg) (fun ev he hc => ?_) ⟨rfl, hO⟩
      have q1 : ev (.tmp 92) = .agg (bv (fill ((b + 2) % 256))).toArray := (he (.tmp 92)).trans (hp 29 92 rfl)
      have q2 : ev (.tmp 95) = U 1 := (he (.tmp 95)).trans (hp 32 95 rfl)
      rw [hO.val1 hj] at q2
      have heq := eq_sec (fill ((b + 2) % 256)) (fill_length _)
      simp only [List.getElem_toArray, List.getElem_cons_succ, List.getElem_cons_zero, execOp]; rw [q1, q2]; go_simp; rfl
    · refine RT.ObT.pure rfl rfl rfl (fun a U hf hp ev he hc W => ?_)
      have q91 : ev (.tmp 91) = .bool true := (he (.tmp 91)).trans (hp 28 91 rfl)
      have q96 : ev (.tmp 96) = .bool true := (he (.tmp 96)).trans (hp 33 96 rfl)
      simp only [List.getElem_toArray, List.getElem_cons_succ, List.getElem_cons_zero, execOp]; rw [q91, q96]; simp only [hc]
      first | rfl | (go_simp; done) | (go_simp; rfl)
    · refine RT.ObT.pure rfl rfl rfl (fun a U hf hp ev he hc W => ?_)
      have q97 : ev (.tmp 97) = .bool true := (he (.tmp 97)).trans (hp 34 97 rfl)
      simp only [List.getElem_toArray, List.getElem_cons_succ, List.getElem_cons_zero, execOp]; rw [q97]
      first | rfl | (go_simp; done) | (go_simp; rfl)
  · intro a w' U hs hd hfx hO hv
    have HO : Hid (fΩ W2 bx bY b 2 U w') := hO
    have HV : Hid (a.eval (.tmp 4) = .bool true) := hv 35 _ 4 rfl rfl
    clear hO hv hfx
    go_wp2_with fail
    refine bodyPost_ret (v := .bool true) ?_ hd ⟨rfl, R2.out.2.2.trans (HO.out.1.mono R2.out.2.2.size)⟩
    have := HV.out
    simp only [results, Try.results6]
    simp only [Act.eval, Array.getD_eq_getD_getElem?] at this
    simp [this]
end Go.Proofs.Ytmlialabdijcoaa
