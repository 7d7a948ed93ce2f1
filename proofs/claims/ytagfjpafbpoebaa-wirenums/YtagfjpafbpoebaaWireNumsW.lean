/- The walk of WireNums. -/
import Derived.Test.YtagfjpafbpoebaaWirG
import Derived.Test.YtagfjpafbpoebaaRgn
namespace Go.Proofs.Ytagfjpafbpoebaa
open Go Go.RowKit
set_option linter.unusedSimpArgs false
set_option linter.unusedVariables false

theorem rn_be (n : Int) (hn : 0 ≤ n) (hn2 : n < 18446744073709551616) : rnVal (be 8 n) = n ∧ rnErr (be 8 n) = 0 :=
  ⟨(if_pos (be_length 8 n)).trans (nm_be8 n hn hn2), if_pos (be_length 8 n)⟩
def nval (n : Int) (xs : List Int) : Nat → Value
  | 0 => .int .i64 0
  | 3 => .int .u64 n
  | 4 => .int .u64 n
  | 8 => .int .u64 n
  | 10 => .string (strOfNums (be 8 n))
  | 11 => .int .u64 n
  | 13 => .string (strOfNums (be 8 n))
  | 17 => .int .u64 (rnVal xs)
  | 18 => .int .u64 (rnVal xs)
  | 22 => .int .i64 (rnErr xs)
  | 23 => .int .i64 (rnErr xs)
  | _ => .bool true
def nφ (n : Int) (xs : List Int) (i : Nat) (v : Value) (w : World) : Prop := (i ≠ 9 ∧ i ≠ 12 → v = nval n xs i) ∧ (i = 9 ∨ i = 12 → Sl w v (be 8 n))
theorem nφ_stays (n : Int) (xs : List Int) (i : Nat) (v : Value) (w w' : World) (h : nφ n xs i v w) (hb : Below w.heap.size w w') : nφ n xs i v w' :=
  ⟨h.1, fun e => (h.2 e).below hb (Nat.le_refl _)⟩
theorem nφ_val {n : Int} {xs : List Int} {i : Nat} {w : World} (h : i ≠ 9 ∧ i ≠ 12) : nφ n xs i (nval n xs i) w := ⟨fun _ => rfl, fun e => absurd e (by omega)⟩
theorem hpG {ops : Array Oper} {φ : Nat → Value → World → Prop} {a : Act} {w : World} {i : Nat} (hp : ∀ p ∈ preds ops i, φ p.1 (a.eval (.tmp p.2)) w) (k d : Nat) (h : (preds ops i).contains (k, d) = true) : φ k (a.eval (.tmp d)) w :=
  hp (k, d) (List.contains_iff_mem.1 h)
set_option maxHeartbeats 1000000 in
theorem wireNums_walk (n : Int) (xs : List Int) (v : Value) (w : World) (hn : 0 ≤ n) (hn2 : n < 18446744073709551616) (hb : Byt xs) (hs : Sl w v xs) (hl : xs.length ≤ 140737488355328) :
    Calls Try.prog 6 #[.int .u64 n, v] w fun e w' => e = .returned (.bool true) ∧ Below w.heap.size w w' := by
  have HB : Hid (Byt xs) := hb
  have HS : Hid (Sl w v xs) := hs
  have RN : Hid (rnVal (be 8 n) = n ∧ rnErr (be 8 n) = 0) := rn_be n hn hn2
  clear hb hs
  go_enter Try.func6, Try.ntmps6
  go_wp2_with (first
    | (go_at_call 9; refine (awake_any w).mono ?_; rintro e w1 ⟨rfl, h1⟩; have H1 : Hid (Below w.heap.size w w1) := h1; clear h1)
    | (go_at_call 17; refine (num_any n w1 hn hn2).mono ?_; rintro e w2 ⟨v2, rfl, h2, h3⟩; have H2 : Hid (Sl w2 v2 (be 8 n)) := h2.sl; have H3 : Hid (Below w.heap.size w w2) := H1.out.trans (h3.mono H1.out.size); clear h2 h3; have H4 : Hid (Sl w2 v xs) := HS.out.below H3.out (Nat.le_refl _))
    | (go_at_call 16; first
       | (refine (readNum_any (be 8 n) v2 w2 (be_byt _ _) H2.out (by rw [be_length]; omega)).mono ?_; rintro e w3 ⟨rfl, rfl⟩; rw [RN.out.1, RN.out.2])
       | (refine (readNum_any xs v _ HB.out H4.out hl).mono ?_; rintro e w4 ⟨rfl, rfl⟩))
    | (go_at_call 18; refine (rreadNum_any xs v _ HB.out H4.out hl).mono ?_; rintro e w5 ⟨rfl, rfl⟩))
  have H5 : Hid (Below w.heap.size w w5) := H3.out
  clear H1 H2 H3 H4
  refine wp_rgn (nφ n xs) (by kernel_rfl) (by decide) (by kernel_rfl) (by kernel_rfl) (nφ_stays n xs) ?_ ?_
  refine ⟨?_, ?_, ?_, ?_, ?_, ?_, ?_, ?_, ?_, ?_, ?_, ?_, ?_, ?_, ?_, ?_, ?_, ?_, ?_, ?_, ?_, ?_, ?_, ?_, ?_, ?_, ?_, trivial⟩
  · intro a W hb hf hp
    have f6 : a.eval (.tmp 6) = .int .i64 0 := hf 6 (by kernel_rfl)
    exact ob_val rfl (wanted_none rfl) (fun ev h hc => by simp [execOp, (h (.tmp 6)).trans f6, hc, nval, go_sem]) (nφ_val (by decide))
  · intro a W hb hf hp
    have e0 : a.eval (.tmp 29) = .int .i64 0 := (hpG hp 0 29 (by kernel_rfl)).1 (by decide)
    exact ob_val rfl (wanted_none rfl) (fun ev h hc => by simp [execOp, (h (.tmp 29)).trans e0, hc, nval, go_sem]) (nφ_val (by decide))
  · intro a W hb hf hp
    have e1 : a.eval (.tmp 30) = .bool true := (hpG hp 1 30 (by kernel_rfl)).1 (by decide)
    exact ob_val rfl (wanted_none rfl) (fun ev h hc => by simp [execOp, (h (.tmp 30)).trans e1, hc, nval, go_sem]) (nφ_val (by decide))
  · intro a W hb hf hp
    have eg : a.eval (.tmp 31) = .bool true := (hpG hp 2 31 (by kernel_rfl)).1 (by decide)
    have f5 : a.eval (.tmp 5) = .int .u64 n := hf 5 (by kernel_rfl)
    exact ob_val rfl (wanted_some rfl rfl rfl eg) (fun ev h hc => by simp [execOp, (h (.tmp 5)).trans f5, hc, nval, go_sem]) (nφ_val (by decide))
  · intro a W hb hf hp
    have eg : a.eval (.tmp 31) = .bool true := (hpG hp 2 31 (by kernel_rfl)).1 (by decide)
    have f0 : a.eval (.tmp 0) = .int .u64 n := hf 0 (by kernel_rfl)
    exact ob_val rfl (wanted_some rfl rfl rfl eg) (fun ev h hc => by simp [execOp, (h (.tmp 0)).trans f0, hc, nval, go_sem]) (nφ_val (by decide))
  · intro a W hb hf hp
    have eg : a.eval (.tmp 31) = .bool true := (hpG hp 2 31 (by kernel_rfl)).1 (by decide)
    have e3 : a.eval (.tmp 32) = .int .u64 n := (hpG hp 3 32 (by kernel_rfl)).1 (by decide)
    have e4 : a.eval (.tmp 33) = .int .u64 n := (hpG hp 4 33 (by kernel_rfl)).1 (by decide)
    exact ob_val rfl (wanted_some rfl rfl rfl eg) (fun ev h hc => by simp [execOp, (h (.tmp 32)).trans e3, (h (.tmp 33)).trans e4, hc, nval, go_sem]) (nφ_val (by decide))
  · intro a W hb hf hp
    have e2 : a.eval (.tmp 31) = .bool true := (hpG hp 2 31 (by kernel_rfl)).1 (by decide)
    have e5 : a.eval (.tmp 34) = .bool true := (hpG hp 5 34 (by kernel_rfl)).1 (by decide)
    exact ob_val rfl (wanted_none rfl) (fun ev h hc => by simp [execOp, (h (.tmp 31)).trans e2, (h (.tmp 34)).trans e5, hc, nval, go_sem]) (nφ_val (by decide))
  · intro a W hb hf hp
    have e6 : a.eval (.tmp 35) = .bool true := (hpG hp 6 35 (by kernel_rfl)).1 (by decide)
    exact ob_val rfl (wanted_none rfl) (fun ev h hc => by simp [execOp, (h (.tmp 35)).trans e6, hc, nval, go_sem]) (nφ_val (by decide))
  · intro a W hb hf hp
    have eg : a.eval (.tmp 36) = .bool true := (hpG hp 7 36 (by kernel_rfl)).1 (by decide)
    have f0 : a.eval (.tmp 0) = .int .u64 n := hf 0 (by kernel_rfl)
    exact ob_val rfl (wanted_some rfl rfl rfl eg) (fun ev h hc => by simp [execOp, (h (.tmp 0)).trans f0, hc, nval, go_sem]) (nφ_val (by decide))
  · intro a W hb hf hp
    have eg : a.eval (.tmp 36) = .bool true := (hpG hp 7 36 (by kernel_rfl)).1 (by decide)
    have e8 : a.eval (.tmp 37) = .int .u64 n := (hpG hp 8 37 (by kernel_rfl)).1 (by decide)
    refine ob_call (f := 17) (args := #[.int .u64 n]) rfl (wanted_some rfl rfl rfl eg) (fun ev h hc => by have hfn := h (.func 17); have h8 := (h (.tmp 37)).trans e8; simp [execOp, resolve, h8, hfn, hc, go_sem]) ((num_any n W hn hn2).mono ?_)
    rintro e w6 ⟨v6, rfl, h6, h7⟩
    exact ⟨v6, rfl, ⟨fun h => absurd rfl h.1, fun _ => h6.sl⟩, h7⟩
  · intro a W hb hf hp
    have eg : a.eval (.tmp 36) = .bool true := (hpG hp 7 36 (by kernel_rfl)).1 (by decide)
    have s9 := ((hpG hp 9 38 (by kernel_rfl)).2 (by decide)).str
    exact ob_val rfl (wanted_some rfl rfl rfl eg) (fun ev h hc => by have s9 : (convert 24 9 (ev (.tmp 38))).run Try.prog W = .ok (.string (strOfNums (be 8 n))) W := (by rw [h]; exact s9); simp [execOp, s9, hc, nval, go_sem]) (nφ_val (by decide))
  · intro a W hb hf hp
    have eg : a.eval (.tmp 36) = .bool true := (hpG hp 7 36 (by kernel_rfl)).1 (by decide)
    have f0 : a.eval (.tmp 0) = .int .u64 n := hf 0 (by kernel_rfl)
    exact ob_val rfl (wanted_some rfl rfl rfl eg) (fun ev h hc => by simp [execOp, (h (.tmp 0)).trans f0, hc, nval, go_sem]) (nφ_val (by decide))
  · intro a W hb hf hp
    have eg : a.eval (.tmp 36) = .bool true := (hpG hp 7 36 (by kernel_rfl)).1 (by decide)
    have e11 : a.eval (.tmp 40) = .int .u64 n := (hpG hp 11 40 (by kernel_rfl)).1 (by decide)
    refine ob_call (f := 19) (args := #[.int .u64 n]) rfl (wanted_some rfl rfl rfl eg) (fun ev h hc => by have hfn := h (.func 19); have h11 := (h (.tmp 40)).trans e11; simp [execOp, resolve, h11, hfn, hc, go_sem]) ((rnum_any n W hn hn2).mono ?_)
    rintro e w6 ⟨v6, rfl, h6, h7⟩
    exact ⟨v6, rfl, ⟨fun h => absurd rfl h.2, fun _ => h6.sl⟩, h7⟩
  · intro a W hb hf hp
    have eg : a.eval (.tmp 36) = .bool true := (hpG hp 7 36 (by kernel_rfl)).1 (by decide)
    have s12 := ((hpG hp 12 41 (by kernel_rfl)).2 (by decide)).str
    exact ob_val rfl (wanted_some rfl rfl rfl eg) (fun ev h hc => by have s9 : (convert 24 9 (ev (.tmp 41))).run Try.prog W = .ok (.string (strOfNums (be 8 n))) W := (by rw [h]; exact s12); simp [execOp, s9, hc, nval, go_sem]) (nφ_val (by decide))
  · intro a W hb hf hp
    have eg : a.eval (.tmp 36) = .bool true := (hpG hp 7 36 (by kernel_rfl)).1 (by decide)
    have e10 : a.eval (.tmp 39) = .string (strOfNums (be 8 n)) := (hpG hp 10 39 (by kernel_rfl)).1 (by decide)
    have e13 : a.eval (.tmp 42) = .string (strOfNums (be 8 n)) := (hpG hp 13 42 (by kernel_rfl)).1 (by decide)
    exact ob_val rfl (wanted_some rfl rfl rfl eg) (fun ev h hc => by simp [execOp, (h (.tmp 39)).trans e10, (h (.tmp 42)).trans e13, hc, nval, go_sem]) (nφ_val (by decide))
  · intro a W hb hf hp
    have e7 : a.eval (.tmp 36) = .bool true := (hpG hp 7 36 (by kernel_rfl)).1 (by decide)
    have e14 : a.eval (.tmp 43) = .bool true := (hpG hp 14 43 (by kernel_rfl)).1 (by decide)
    exact ob_val rfl (wanted_none rfl) (fun ev h hc => by simp [execOp, (h (.tmp 36)).trans e7, (h (.tmp 43)).trans e14, hc, nval, go_sem]) (nφ_val (by decide))
  · intro a W hb hf hp
    have e15 : a.eval (.tmp 44) = .bool true := (hpG hp 15 44 (by kernel_rfl)).1 (by decide)
    exact ob_val rfl (wanted_none rfl) (fun ev h hc => by simp [execOp, (h (.tmp 44)).trans e15, hc, nval, go_sem]) (nφ_val (by decide))
  · intro a W hb hf hp
    have eg : a.eval (.tmp 45) = .bool true := (hpG hp 16 45 (by kernel_rfl)).1 (by decide)
    have f7 : a.eval (.tmp 7) = .int .u64 (rnVal xs) := hf 7 (by kernel_rfl)
    exact ob_val rfl (wanted_some rfl rfl rfl eg) (fun ev h hc => by simp [execOp, (h (.tmp 7)).trans f7, hc, nval, go_sem]) (nφ_val (by decide))
  · intro a W hb hf hp
    have eg : a.eval (.tmp 45) = .bool true := (hpG hp 16 45 (by kernel_rfl)).1 (by decide)
    have f9 : a.eval (.tmp 9) = .int .u64 (rnVal xs) := hf 9 (by kernel_rfl)
    exact ob_val rfl (wanted_some rfl rfl rfl eg) (fun ev h hc => by simp [execOp, (h (.tmp 9)).trans f9, hc, nval, go_sem]) (nφ_val (by decide))
  · intro a W hb hf hp
    have eg : a.eval (.tmp 45) = .bool true := (hpG hp 16 45 (by kernel_rfl)).1 (by decide)
    have e17 : a.eval (.tmp 46) = .int .u64 (rnVal xs) := (hpG hp 17 46 (by kernel_rfl)).1 (by decide)
    have e18 : a.eval (.tmp 47) = .int .u64 (rnVal xs) := (hpG hp 18 47 (by kernel_rfl)).1 (by decide)
    exact ob_val rfl (wanted_some rfl rfl rfl eg) (fun ev h hc => by simp [execOp, (h (.tmp 46)).trans e17, (h (.tmp 47)).trans e18, hc, nval, go_sem]) (nφ_val (by decide))
  · intro a W hb hf hp
    have e16 : a.eval (.tmp 45) = .bool true := (hpG hp 16 45 (by kernel_rfl)).1 (by decide)
    have e19 : a.eval (.tmp 48) = .bool true := (hpG hp 19 48 (by kernel_rfl)).1 (by decide)
    exact ob_val rfl (wanted_none rfl) (fun ev h hc => by simp [execOp, (h (.tmp 45)).trans e16, (h (.tmp 48)).trans e19, hc, nval, go_sem]) (nφ_val (by decide))
  · intro a W hb hf hp
    have e20 : a.eval (.tmp 49) = .bool true := (hpG hp 20 49 (by kernel_rfl)).1 (by decide)
    exact ob_val rfl (wanted_none rfl) (fun ev h hc => by simp [execOp, (h (.tmp 49)).trans e20, hc, nval, go_sem]) (nφ_val (by decide))
  · intro a W hb hf hp
    have eg : a.eval (.tmp 50) = .bool true := (hpG hp 21 50 (by kernel_rfl)).1 (by decide)
    have f8 : a.eval (.tmp 8) = .int .i64 (rnErr xs) := hf 8 (by kernel_rfl)
    exact ob_val rfl (wanted_some rfl rfl rfl eg) (fun ev h hc => by simp [execOp, (h (.tmp 8)).trans f8, hc, nval, go_sem]) (nφ_val (by decide))
  · intro a W hb hf hp
    have eg : a.eval (.tmp 50) = .bool true := (hpG hp 21 50 (by kernel_rfl)).1 (by decide)
    have f10 : a.eval (.tmp 10) = .int .i64 (rnErr xs) := hf 10 (by kernel_rfl)
    exact ob_val rfl (wanted_some rfl rfl rfl eg) (fun ev h hc => by simp [execOp, (h (.tmp 10)).trans f10, hc, nval, go_sem]) (nφ_val (by decide))
  · intro a W hb hf hp
    have eg : a.eval (.tmp 50) = .bool true := (hpG hp 21 50 (by kernel_rfl)).1 (by decide)
    have e22 : a.eval (.tmp 51) = .int .i64 (rnErr xs) := (hpG hp 22 51 (by kernel_rfl)).1 (by decide)
    have e23 : a.eval (.tmp 52) = .int .i64 (rnErr xs) := (hpG hp 23 52 (by kernel_rfl)).1 (by decide)
    exact ob_val rfl (wanted_some rfl rfl rfl eg) (fun ev h hc => by simp [execOp, (h (.tmp 51)).trans e22, (h (.tmp 52)).trans e23, hc, nval, go_sem]) (nφ_val (by decide))
  · intro a W hb hf hp
    have e21 : a.eval (.tmp 50) = .bool true := (hpG hp 21 50 (by kernel_rfl)).1 (by decide)
    have e24 : a.eval (.tmp 53) = .bool true := (hpG hp 24 53 (by kernel_rfl)).1 (by decide)
    exact ob_val rfl (wanted_none rfl) (fun ev h hc => by simp [execOp, (h (.tmp 50)).trans e21, (h (.tmp 53)).trans e24, hc, nval, go_sem]) (nφ_val (by decide))
  · intro a W hb hf hp
    have e25 : a.eval (.tmp 54) = .bool true := (hpG hp 25 54 (by kernel_rfl)).1 (by decide)
    exact ob_val rfl (wanted_none rfl) (fun ev h hc => by simp [execOp, (h (.tmp 54)).trans e25, hc, nval, go_sem]) (nφ_val (by decide))
  · intro a W h1 h2 h3 h4 h5
    have e4 : a.eval (.tmp 4) = .bool true := (h5 26 _ 4 rfl rfl).1 (by decide)
    rename_i K hK
    refine hK a W (wp_ret ?_)
    have e5 : a.tmps[4]?.getD undef = .bool true := by simpa [Act.eval] using e4
    exact bodyPost_ret (P := Try.prog) (fn := Try.f6) (R := fun e w' => e = .returned (.bool true) ∧ Below w.heap.size w w') (v := .bool true) (by simp [results, Try.results6, e5, go_sem]) h2 ⟨rfl, H5.out.trans (h3.mono H5.out.size)⟩
end Go.Proofs.Ytagfjpafbpoebaa
