/- The reference's Devices. -/
import Derived.Test.YtddgdaggdgeclaaDoorWirQ
import Derived.Test.YtddgdaggdgeclaaDoorRgn
namespace Go.Proofs.YtddgdaggdgeclaaDoor
open Go Go.RowKit
set_option linter.unusedSimpArgs false
set_option linter.unusedVariables false

def rval (ds : List (List Int)) (b o cap k : Nat) : Nat → Value
  | 0 => .slice (some ⟨b, o, none⟩) ds.length cap
  | 1 => .int .i64 ((k + 1 : Nat) : Int)
  | 2 => .int .i64 (k : Int)
  | 3 => .pointer (some ⟨b, o + k * 32, none⟩)
  | 4 => .agg (bv (mi ds k)).toArray
  | 5 => .slice (some ⟨b, o, none⟩) ds.length cap
  | 6 => .int .i64 ((k + 1 : Nat) : Int)
  | 7 => .pointer (some ⟨b, o + (k + 1) * 32, none⟩)
  | 8 => .agg (bv (mi ds (k + 1))).toArray
  | 9 => .bool (ltb (mi ds k) (mi ds (k + 1)))
  | 10 => .bool (!ltb (mi ds k) (mi ds (k + 1)))
  | _ => undef
def rφ (ds : List (List Int)) (b o cap k : Nat) (i : Nat) (v : Value) (w : World) : Prop := v = rval ds b o cap k i
theorem hpR {ops : Array Oper} {φ : Nat → Value → World → Prop} {a : Act} {w : World} {i : Nat} (hp : ∀ p ∈ preds ops i, φ p.1 (a.eval (.tmp p.2)) w) (k d : Nat) (h : (preds ops i).contains (k, d) = true) : φ k (a.eval (.tmp d)) w :=
  hp (k, d) (List.contains_iff_mem.1 h)
theorem act_of {a : Act} {l : List Value} (hs : a.tmps.size = l.length) (hd : a.defers = []) (h : Obs (fun i => a.eval (.tmp i) = l.getD i undef) 0 l.length) : a = ⟨l.toArray, []⟩ := by
  obtain ⟨t, df⟩ := a
  simp only at hs hd
  subst hd
  congr 1
  apply Array.ext
  · simpa using hs
  · intro i h1 h2
    have h2' : i < l.length := by simpa using h2
    have := h.get i (Nat.zero_le _) (by omega)
    simp only [Act.eval, Array.getD_eq_getD_getElem?, List.getD_eq_getElem?_getD] at this
    rw [Array.getElem?_eq_getElem h1, List.getElem?_eq_getElem h2'] at this
    simpa using this
set_option maxHeartbeats 1000000 in
theorem rdevices_any (ds : List (List Int)) (v : Value) (w : World) (hs : DD w v ds) (hn : ds.length ≤ 140737488355328) :
    Calls Tryd.prog 12 #[v] w fun e w' => e = .returned (.bool (devB ds)) ∧ Below w.heap.size w w' := by
  obtain ⟨ad, cap, rfl, hl, hx⟩ := hs
  have HX : Hid _ := hx
  have HL : Hid _ := hl
  clear hx hl
  go_enter Tryd.func12, Tryd.ntmps12
  go_wp2
  go_loopw [3] (fun i wr => ∃ k : Nat, (k + 1 ≤ ds.length ∨ k = 0) ∧ i = .int .i64 ((k + 1 : Nat) : Int) ∧ Below w.heap.size w wr ∧ ∀ j, j + 1 ≤ k → ltb (mi ds j) (mi ds (j + 1)) = true) (fun i _ => ds.length - (intOf i).toNat)
  case atStart => exact ⟨0, .inr rfl, rfl, Below.refl _ _, fun j hj => by omega⟩
  case round =>
    obtain ⟨k, hk, rfl, hbw, hall⟩ := hrel
    have HA : Hid _ := hall
    have HW : Hid (Below w.heap.size w wr) := hbw
    clear hall hbw
    by_cases hlt : k + 1 < ds.length
    · rcases HX.out with rfl | ⟨b, o, rfl, hlb, hm⟩
      · simp at hlt
      · have gk : ((k + 1 : Nat) : Int) < (ds.length : Int) := by omega
        go_wp2
        have HN : Hid (∀ W : World, Below wr.heap.size wr W → W.rangeAt b (o + k * 32) (bv (mi ds k)) ∧ W.rangeAt b (o + (k + 1) * 32) (bv (mi ds (k + 1)))) := by
          intro W hWW
          have hz : b < wr.heap.size := Nat.lt_of_lt_of_le hlb HW.out.size
          have each : ∀ i, i < ds.length → W.rangeAt b (o + i * 32) (bv (mi ds i)) := fun i hi j u hu => by
            obtain ⟨hj, _⟩ := List.getElem?_eq_some_iff.1 hu
            rw [bv_length, (HL.out i hi).1] at hj
            rw [bv_get _ (by rw [(HL.out i hi).1]; exact hj)] at hu
            rw [hWW.cell (p := ⟨b, o + i * 32 + j, none⟩) hz, HW.out.cell (p := ⟨b, o + i * 32 + j, none⟩) hlb, Nat.add_assoc, hm i hi j hj]; exact hu
          exact ⟨each k (by omega), each (k + 1) hlt⟩
        have L1 := HL.out k (by omega)
        have L2 := HL.out (k + 1) hlt
        refine wp_rgn (rφ ds b o cap k) (by kernel_rfl) (by decide) (by kernel_rfl) (by kernel_rfl) (fun _ _ _ _ h _ => h) ?_ ?_
        · refine ⟨?_, ?_, ?_, ?_, ?_, ?_, ?_, ?_, ?_, ?_, ?_, trivial⟩
          · intro a W hb hf hp
            have f0 : a.eval (.tmp 0) = .slice (some ⟨b, o, none⟩) ds.length cap := hf 0 (by kernel_rfl)
            exact ob_val rfl (wanted_none rfl) (fun ev h hc => by simp [execOp, (h (.tmp 0)).trans f0, hc, rval, go_sem]) rfl
          · intro a W hb hf hp
            have f3 : a.eval (.tmp 3) = .int .i64 ((k + 1 : Nat) : Int) := hf 3 (by kernel_rfl)
            exact ob_val rfl (wanted_none rfl) (fun ev h hc => by simp [execOp, (h (.tmp 3)).trans f3, hc, rval, go_sem]) rfl
          · intro a W hb hf hp
            have e1 : a.eval (.tmp 11) = .int .i64 ((k + 1 : Nat) : Int) := hpR hp 1 11 (by kernel_rfl)
            exact ob_val rfl (wanted_none rfl) (fun ev h hc => by have hs : IntKind.i64.wrap (k : Int) = (k : Int) := wrap_small _ (by omega) (by omega); have q := (h (.tmp 11)).trans e1; simp only [List.getElem_toArray, List.getElem_cons_succ, List.getElem_cons_zero, execOp]; rw [q, hc]; go_simp; simp [hs, rval, Result.andThen]) rfl
          · intro a W hb hf hp
            have e0 : a.eval (.tmp 10) = .slice (some ⟨b, o, none⟩) ds.length cap := hpR hp 0 10 (by kernel_rfl)
            have e2 : a.eval (.tmp 12) = .int .i64 (k : Int) := hpR hp 2 12 (by kernel_rfl)
            exact ob_val rfl (wanted_none rfl) (fun ev h hc => by have q0 := (h (.tmp 10)).trans e0; have q1 := (h (.tmp 12)).trans e2; simp only [List.getElem_toArray, List.getElem_cons_succ, List.getElem_cons_zero, execOp]; rw [q0, q1]; go_simp; simp [rval]; intro hx; exfalso; omega) rfl
          · intro a W hb hf hp
            have e3 : a.eval (.tmp 13) = .pointer (some ⟨b, o + k * 32, none⟩) := hpR hp 3 13 (by kernel_rfl)
            exact ob_val rfl (wanted_none rfl) (fun ev h hc => by have hld := run_loadAt_mid (P := Tryd.prog) W b (o + k * 32) 24 (bv (mi ds k)) _ (HN.out W hb).1 Tryd.underlying24 rfl (by rw [bv_length, L1.1]; exact info_a32); have q := (h (.tmp 13)).trans e3; simp only [List.getElem_toArray, List.getElem_cons_succ, List.getElem_cons_zero, execOp]; rw [q]; simp [hld, rval]) rfl
          · intro a W hb hf hp
            have f0 : a.eval (.tmp 0) = .slice (some ⟨b, o, none⟩) ds.length cap := hf 0 (by kernel_rfl)
            exact ob_val rfl (wanted_none rfl) (fun ev h hc => by simp [execOp, (h (.tmp 0)).trans f0, hc, rval, go_sem]) rfl
          · intro a W hb hf hp
            have f3 : a.eval (.tmp 3) = .int .i64 ((k + 1 : Nat) : Int) := hf 3 (by kernel_rfl)
            exact ob_val rfl (wanted_none rfl) (fun ev h hc => by simp [execOp, (h (.tmp 3)).trans f3, hc, rval, go_sem]) rfl
          · intro a W hb hf hp
            have e5 : a.eval (.tmp 15) = .slice (some ⟨b, o, none⟩) ds.length cap := hpR hp 5 15 (by kernel_rfl)
            have e6 : a.eval (.tmp 16) = .int .i64 ((k + 1 : Nat) : Int) := hpR hp 6 16 (by kernel_rfl)
            exact ob_val rfl (wanted_none rfl) (fun ev h hc => by have q0 := (h (.tmp 15)).trans e5; have q1 := (h (.tmp 16)).trans e6; simp only [List.getElem_toArray, List.getElem_cons_succ, List.getElem_cons_zero, execOp]; rw [q0, q1]; go_simp; simp [rval]; intro hx; exfalso; omega) rfl
          · intro a W hb hf hp
            have e7 : a.eval (.tmp 17) = .pointer (some ⟨b, o + (k + 1) * 32, none⟩) := hpR hp 7 17 (by kernel_rfl)
            exact ob_val rfl (wanted_none rfl) (fun ev h hc => by have hld := run_loadAt_mid (P := Tryd.prog) W b (o + (k + 1) * 32) 24 (bv (mi ds (k + 1))) _ (HN.out W hb).2 Tryd.underlying24 rfl (by rw [bv_length, L2.1]; exact info_a32); have q := (h (.tmp 17)).trans e7; simp only [List.getElem_toArray, List.getElem_cons_succ, List.getElem_cons_zero, execOp]; rw [q]; simp [hld, rval]) rfl
          · intro a W hb hf hp
            have e4 : a.eval (.tmp 14) = .agg (bv (mi ds k)).toArray := hpR hp 4 14 (by kernel_rfl)
            have e8 : a.eval (.tmp 18) = .agg (bv (mi ds (k + 1))).toArray := hpR hp 8 18 (by kernel_rfl)
            refine ob_call (f := 22) (args := #[.agg (bv (mi ds k)).toArray, .agg (bv (mi ds (k + 1))).toArray]) rfl (wanted_none rfl) (fun ev h hc => by have hfn := h (.func 22); simp [execOp, resolve, (h (.tmp 14)).trans e4, (h (.tmp 18)).trans e8, hfn, hc, go_sem]) ((below_any _ _ W L1.1 L2.1 L1.2 L2.2).mono ?_)
            rintro e w6 ⟨rfl, h7⟩
            exact ⟨_, rfl, rfl, h7⟩
          · intro a W hb hf hp
            have e9 : a.eval (.tmp 19) = .bool (ltb (mi ds k) (mi ds (k + 1))) := hpR hp 9 19 (by kernel_rfl)
            exact ob_val rfl (wanted_none rfl) (fun ev h hc => by simp [execOp, (h (.tmp 19)).trans e9, hc, rval, go_sem]) rfl
        · intro a W h1 h2 h3 h4 h5
          have ha := act_of (a := a) (l := [.slice (some ⟨b, o, none⟩) ds.length cap, undef, u2, .int .i64 ((k + 1 : Nat) : Int), .int .i64 ((k + 1 : Nat) : Int), .slice (some ⟨b, o, none⟩) ds.length cap, .int .i64 (ds.length : Int), .bool (decide ((k : Int) + 1 < (ds.length : Int))), u8, u9, .slice (some ⟨b, o, none⟩) ds.length cap, .int .i64 ((k + 1 : Nat) : Int), .int .i64 (k : Int), .pointer (some ⟨b, o + k * 32, none⟩), .agg (bv (mi ds k)).toArray, .slice (some ⟨b, o, none⟩) ds.length cap, .int .i64 ((k + 1 : Nat) : Int), .pointer (some ⟨b, o + (k + 1) * 32, none⟩), .agg (bv (mi ds (k + 1))).toArray, .bool (ltb (mi ds k) (mi ds (k + 1))), .bool (!ltb (mi ds k) (mi ds (k + 1))), undef, undef, undef]) h1 h2 ⟨h4 0 (by kernel_rfl), h4 1 (by kernel_rfl), h4 2 (by kernel_rfl), h4 3 (by kernel_rfl), h4 4 (by kernel_rfl), h4 5 (by kernel_rfl), h4 6 (by kernel_rfl), h4 7 (by kernel_rfl), h4 8 (by kernel_rfl), h4 9 (by kernel_rfl), h5 0 _ 10 rfl rfl, h5 1 _ 11 rfl rfl, h5 2 _ 12 rfl rfl, h5 3 _ 13 rfl rfl, h5 4 _ 14 rfl rfl, h5 5 _ 15 rfl rfl, h5 6 _ 16 rfl rfl, h5 7 _ 17 rfl rfl, h5 8 _ 18 rfl rfl, h5 9 _ 19 rfl rfl, h5 10 _ 20 rfl rfl, h4 21 (by kernel_rfl), h4 22 (by kernel_rfl), h4 23 (by kernel_rfl), trivial⟩
          have HD : Hid (Below w.heap.size w W) := HW.out.trans (h3.mono HW.out.size)
          subst ha
          clear h1 h2 h3 h4 h5 hm
          cases hlt2 : ltb (mi ds k) (mi ds (k + 1)) with
          | false =>
            have E : Hid (devB ds = false) := devB_no hlt hlt2
            go_wp2
            go_ret
            exact ⟨by rw [E.out]; rfl, HD.out⟩
          | true =>
            have HT : Hid _ := hlt2
            go_wp2
            refine ⟨⟨k + 1, .inl hlt, by go_num, HD.out, fun j hj => ?_⟩, by simp [intOf]; omega⟩
            by_cases e : j = k
            · subst e; exact HT.out
            · exact HA.out j (by omega)
    · have gk : ¬ ((k + 1 : Nat) : Int) < (ds.length : Int) := by omega
      by_cases h8 : 8 < ds.length
      · have E : Hid (devB ds = false) := devB_long h8
        have g : ¬ (ds.length : Int) ≤ 8 := by omega
        go_wp2
        go_ret
        exact ⟨by rw [E.out]; rfl, HW.out⟩
      · have E : Hid (devB ds = true) := devB_yes (by omega) (fun i hi => HA.out i (by omega))
        have g : (ds.length : Int) ≤ 8 := by omega
        go_wp2
        go_ret
        exact ⟨by rw [E.out]; rfl, HW.out⟩
end Go.Proofs.YtddgdaggdgeclaaDoor
