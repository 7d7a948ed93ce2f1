/- Package tree: over, root. -/
import Derived.Test.YtkeobajlikhghabDoorTreZ
namespace Go.Proofs.YtkeobajlikhghabDoor
open Go Go.RowKit
set_option linter.unusedSimpArgs false
set_option linter.unusedVariables false
set_option maxRecDepth 100000

theorem ov_fuel : ∀ (f g : Nat) (l : List Nd), Ris l → l ≠ [] → l.length ≤ f → l.length ≤ g → ov f l = ov g l
  | 0, g, l, _, hne, hf, _ => absurd (List.length_eq_zero_iff.1 (Nat.le_zero.1 hf)) hne
  | f + 1, 0, l, _, hne, _, hg => absurd (List.length_eq_zero_iff.1 (Nat.le_zero.1 hg)) hne
  | f + 1, g + 1, l, hr, hne, hf, hg => by
    simp only [ov]
    by_cases h1 : l.length ≤ 1
    · rw [if_pos h1, if_pos h1]
    · rw [if_neg h1, if_neg h1]
      obtain ⟨k1, k2⟩ := hr.cut_in (by omega)
      have t1 : (l.take (cut (cl l) l)).length = cut (cl l) l := by rw [List.length_take]; omega
      have t2 : (l.drop (cut (cl l) l)).length = l.length - cut (cl l) l := by rw [List.length_drop]
      rw [ov_fuel f g (l.take (cut (cl l) l)) (hr.sub (List.take_sublist _ _)) (fun e => by rw [e] at t1; simp at t1; omega) (by omega) (by omega),
        ov_fuel f g (l.drop (cut (cl l) l)) (hr.sub (List.drop_sublist _ _)) (fun e => by rw [e] at t2; simp at t2; omega) (by omega) (by omega)]
/-- Nodes that rise, of lengths that are lengths. -/
structure Rsn (l : List Nd) : Prop where
  ris : Ris l
  lo : ∀ x ∈ l, 0 ≤ x.n
  hi : ∀ x ∈ l, x.n ≤ 256
theorem Rsn.sub {l m : List Nd} (h : Rsn l) (hs : m.Sublist l) : Rsn m := ⟨h.ris.sub hs, fun x hx => h.lo x (hs.subset hx), fun x hx => h.hi x (hs.subset hx)⟩
theorem ov_ok {l : List Nd} (h : Rsn l) (hne : l ≠ []) (f : Nat) (hf : l.length ≤ f) : (ov f l).Ok ∧ 0 ≤ (ov f l).n ∧ (ov f l).n ≤ 256 := by
  obtain ⟨a, ha⟩ : ∃ x, l[0]? = some x := ⟨l[0]'(List.length_pos_iff.2 hne), List.getElem?_eq_getElem (List.length_pos_iff.2 hne)⟩
  have hm := List.mem_of_getElem? ha
  match f, hf with
  | 0, hf => exact absurd (List.length_eq_zero_iff.1 (Nat.le_zero.1 hf)) hne
  | f + 1, hf =>
    simp only [ov]
    by_cases h1 : l.length ≤ 1
    · rw [if_pos h1]
      have e : l.headD nd0 = a := by rw [List.headD_eq_head?_getD, List.head?_eq_getElem?, ha]; rfl
      rw [e]; exact ⟨h.ris.ok a hm, h.lo a hm, h.hi a hm⟩
    · rw [if_neg h1]
      have hc := h.ris.cl_lt (by omega)
      refine ⟨by rw [hp_eq ha]; exact jnd_ok (h.ris.ok a hm).p _ _, ?_, ?_⟩
      · show (0 : Int) ≤ ((cl l : Nat) : Int); omega
      · show ((cl l : Nat) : Int) ≤ 256; omega
/-- The node over nodes. -/
def ovl (l : List Nd) : Nd := ov l.length l
theorem ovl_one (x : Nd) : ovl [x] = x := rfl
theorem ovl_more {l : List Nd} (h : Ris l) (h2 : 2 ≤ l.length) : ovl l = jnd (cm (ovl (l.take (cut (cl l) l))).p (ovl (l.drop (cut (cl l) l))).p 256) (ovl (l.take (cut (cl l) l))).p (ovl (l.take (cut (cl l) l))) (ovl (l.drop (cut (cl l) l))) := by
  obtain ⟨f, hf⟩ : ∃ f, l.length = f + 1 := ⟨l.length - 1, by omega⟩
  obtain ⟨k1, k2⟩ := h.cut_in h2
  have t1 : (l.take (cut (cl l) l)).length = cut (cl l) l := by rw [List.length_take]; omega
  have t2 : (l.drop (cut (cl l) l)).length = l.length - cut (cl l) l := by rw [List.length_drop]
  have e1 : ovl (l.take (cut (cl l) l)) = ov f (l.take (cut (cl l) l)) := ov_fuel _ _ _ (h.sub (List.take_sublist _ _)) (fun e => by rw [e] at t1; simp at t1; omega) (Nat.le_refl _) (by omega)
  have e2 : ovl (l.drop (cut (cl l) l)) = ov f (l.drop (cut (cl l) l)) := ov_fuel _ _ _ (h.sub (List.drop_sublist _ _)) (fun e => by rw [e] at t2; simp at t2; omega) (Nat.le_refl _) (by omega)
  obtain ⟨c1, c2⟩ := halves_cm h h2 f (by omega)
  rw [e1, e2, c1]
  show ov l.length l = _
  rw [hf]
  simp only [ov]
  rw [if_neg (by omega)]
  unfold jnd
  rw [c2]
set_option maxHeartbeats 4000000 in
theorem over_any : ∀ (n : Nat) (l : List Nd), l.length ≤ n → Rsn l → l ≠ [] → l.length ≤ 140737488355328 → ∀ (v : Value) (w : World), NS w v l → Tb w →
    Calls Tryd.prog 21 #[v] w fun e w' => e = .returned (.agg (nc (ovl l)).toArray) ∧ Below w.heap.size w w'
  | 0, l, hl, _, hne, _, _, _, _, _ => absurd (List.length_eq_zero_iff.1 (Nat.le_zero.1 hl)) hne
  | n + 1, l, hl, hr, hne, hlen, v, w, hv, hT => by
    have IH := over_any n
    have hz := zero_nd
    obtain ⟨Z, hZ⟩ : ∃ Z, (nc ndz).toArray = Z := ⟨_, rfl⟩
    have hZs : Z.size = 65 := by rw [← hZ]; exact nc_size ndz_ok
    rw [hZ] at hz
    clear hZ
    have rz : (w.alloc (.cells Z 35)).heap[w.heap.size]? = some (.cells Z 35 (0, 0)) := by show (w.heap.push _)[w.heap.size]? = _; simp
    have rl : Below w.heap.size w (w.alloc (.cells Z 35)) := (Below.refl _ w).alloc (Nat.le_refl _) _
    have rs : (w.alloc (.cells Z 35)).heap.size = w.heap.size + 1 := by simp
    obtain ⟨U, hU⟩ : ∃ U, w.alloc (.cells Z 35) = U := ⟨_, rfl⟩
    rw [hU] at rz rl rs
    have BU : Hid (Below w.heap.size w U) := rl
    have TU : Hid (Tb U) := hT.below rl
    have VU : Hid (NS U v l) := hv.below rl
    obtain ⟨D, hD⟩ : ∃ D, w.heap.size = D := ⟨_, rfl⟩
    have HD : Hid (w.heap.size = D) := hD
    rw [hD] at rz rs
    have RZ : Hid (U.heap[D]? = some (.cells Z 35 (0, 0))) := rz
    have SU : Hid (U.heap.size = D + 1) := rs
    have HIH : Hid (∀ (l : List Nd), l.length ≤ n → Rsn l → l ≠ [] → l.length ≤ 140737488355328 → ∀ (v : Value) (w : World), NS w v l → Tb w → Calls Tryd.prog 21 #[v] w fun e w' => e = .returned (.agg (nc (ovl l)).toArray) ∧ Below w.heap.size w w') := IH
    clear rz rl rs hT IH
    obtain ⟨ad, cap, rfl, hcp, hx⟩ := hv
    by_cases h1 : l.length = 1
    · obtain ⟨x, rfl⟩ := List.length_eq_one_iff.1 h1
      rcases hx with ⟨h0, _⟩ | ⟨b, o, rfl, hlb, hm⟩
      · cases h0
      have RX : Hid (U.rangeAt b o (nc x)) := by have := hm 0 x rfl; rw [show o + 0 * 65 = o by omega] at this; exact range_below this BU.out hlb
      have HX : Hid x.Ok := hr.ris.ok x (by simp)
      have HE : Hid (ovl [x] = x) := rfl
      clear hm hr hcp
      rw [HE.out]
      simp only [List.length_singleton]
      go_enter Tryd.func21, Tryd.ntmps21
      go_upto_region 1 with (fail)
      try rw [hU]
      try rw [hD]
      clear hU hD hz
      go_wp2_with (first
        | (refine ld 35 (.tmp 9) rfl rfl b o rfl (nc x) _ RX.out Tryd.underlying35 rfl (size_nc HX.out) ?_)
        | (refine wpList_store_mid rfl 35 (.tmp 2) (.tmp 10) rfl D 0 (nc x).toArray rfl rfl (by rw [nc_size HX.out]; exact there_of_row' RZ.out 0 65 (by omega)) (by rw [List.size_toArray]; exact size_nc HX.out) (nc_one _) ?_; simp only [List.toList_toArray]))
      have qq : (U.setCells D 0 (nc x)).rangeAt D 0 (nc x) := World.rangeAt_setCells_same _ _ _ _ (by rw [nc_length HX.out]; exact there_of_row' RZ.out 0 65 (by omega))
      have hbl : Below w.heap.size w (U.setCells D 0 (nc x)) := below_setCells (by rw [HD.out]; exact Nat.le_refl _) _ _ BU.out
      refine bodyPost_ret (v := .agg (nc x).toArray) ?_ rfl ⟨rfl, hbl⟩
      simp only [results, Tryd.results21]
      simp [Act.put, asAddr, run_loadVar_mid _ D 0 35 (nc x) _ qq Tryd.underlying35 rfl (size_nc HX.out)]
    · have hl2 : 2 ≤ l.length := by have := List.length_pos_iff.2 hne; omega
      obtain ⟨k1, k2⟩ := hr.ris.cut_in hl2
      obtain ⟨m, hm⟩ : ∃ m, cut (cl l) l = m := ⟨_, rfl⟩
      have t1 : (l.take m).length = m := by rw [List.length_take]; omega
      have t2 : (l.drop m).length = l.length - m := by rw [List.length_drop]
      have n1 : l.take m ≠ [] := fun e => by rw [e] at t1; simp at t1; omega
      have n2 : l.drop m ≠ [] := fun e => by rw [e] at t2; simp at t2; omega
      have HE : Hid (ovl l = jnd (cm (ovl (l.take m)).p (ovl (l.drop m)).p 256) (ovl (l.take m)).p (ovl (l.take m)) (ovl (l.drop m))) := by have := ovl_more hr.ris hl2; rw [hm] at this; exact this
      obtain ⟨o1, o2, o3⟩ := ov_ok (hr.sub (List.take_sublist m l)) n1 _ (Nat.le_refl _)
      obtain ⟨p1, p2, p3⟩ := ov_ok (hr.sub (List.drop_sublist m l)) n2 _ (Nat.le_refl _)
      have HH : Hid (Calls Tryd.prog 37 #[.slice ad l.length cap] U fun e w' => ∃ v1 v2, e = .returned (.tuple #[v1, v2]) ∧ NS w' v1 (l.take m) ∧ NS w' v2 (l.drop m) ∧ Below U.heap.size U w') := by have := halves_any l hr.ris hl2 _ U VU.out hlen; rw [hm] at this; exact this
      have HO1 : Hid (∀ (v : Value) (W : World), NS W v (l.take m) → Tb W → Calls Tryd.prog 21 #[v] W fun e w' => e = .returned (.agg (nc (ovl (l.take m))).toArray) ∧ Below W.heap.size W w') := HIH.out _ (by omega) (hr.sub (List.take_sublist m l)) n1 (by omega)
      have HO2 : Hid (∀ (v : Value) (W : World), NS W v (l.drop m) → Tb W → Calls Tryd.prog 21 #[v] W fun e w' => e = .returned (.agg (nc (ovl (l.drop m))).toArray) ∧ Below W.heap.size W w') := HIH.out _ (by omega) (hr.sub (List.drop_sublist m l)) n2 (by omega)
      have HJ : Hid (∀ W : World, Tb W → Calls Tryd.prog 38 #[.agg (nc (ovl (l.take m))).toArray, .agg (nc (ovl (l.drop m))).toArray] W fun e w' => e = .returned (.agg (nc (ovl l)).toArray) ∧ Below W.heap.size W w') := fun W hW => by rw [HE.out]; exact join_any _ _ o1 p1 o2 o3 p2 p3 W hW
      have HOK : Hid (ovl l).Ok := (ov_ok hr hne _ (Nat.le_refl _)).1
      obtain ⟨R, hR⟩ : ∃ R, ovl l = R := ⟨_, rfl⟩
      obtain ⟨X, hX⟩ : ∃ X, ovl (l.take m) = X := ⟨_, rfl⟩
      obtain ⟨Y, hY⟩ : ∃ Y, ovl (l.drop m) = Y := ⟨_, rfl⟩
      rw [hR] at HJ HOK ⊢
      rw [hX] at HO1 HJ
      rw [hY] at HO2 HJ
      obtain ⟨len, hlenq⟩ : ∃ len, l.length = len := ⟨_, rfl⟩
      rw [hlenq] at HH h1 hl2 hlen ⊢
      have h1' : ¬ (len : Int) = 1 := by omega
      clear hr hx hcp o1 o2 o3 p1 p2 p3 n1 n2 t1 t2 k1 k2 hm hR hX hY HE hlenq
      go_enter Tryd.func21, Tryd.ntmps21
      go_upto_region 1 with (fail)
      try rw [hU]
      try rw [hD]
      clear hU hD hz
      go_wp2_with (first
        | (go_at_call 37; refine HH.out.mono ?_; rintro e w1 ⟨v1, v2, rfl, g1, g2, g3⟩; have N1 : Hid (NS w1 v1 (l.take m)) := g1; have N2 : Hid (NS w1 v2 (l.drop m)) := g2; have B1 : Hid (Below U.heap.size U w1) := g3; clear g1 g2 g3)
        | (go_at_call 21; refine (HO2.out v2 w2 (N2.out.below B2.out) ((TU.out.below B1.out).below B2.out)).mono ?_; rintro e w3 ⟨rfl, g1⟩; have B3 : Hid (Below w2.heap.size w2 w3) := g1; clear g1)
        | (go_at_call 21; refine (HO1.out v1 w1 N1.out (TU.out.below B1.out)).mono ?_; rintro e w2 ⟨rfl, g1⟩; have B2 : Hid (Below w1.heap.size w1 w2) := g1; clear g1)
        | (go_at_call 38; refine (HJ.out w3 (((TU.out.below B1.out).below B2.out).below B3.out)).mono ?_; rintro e w4 ⟨rfl, g1⟩; have B4 : Hid (Below U.heap.size U w4) := B1.out.trans ((B2.out.trans ((B3.out.trans (g1.mono B3.out.size)).mono B2.out.size)).mono B1.out.size); clear g1)
        | (refine wpList_store_mid rfl 35 (.tmp 2) (.tmp 20) rfl D 0 (nc R).toArray rfl rfl (by rw [nc_size HOK.out]; exact there_of_row' ((B4.out.block _ (by have := SU.out; omega)).trans RZ.out) 0 65 (by omega)) (by rw [List.size_toArray]; exact size_nc HOK.out) (nc_one _) ?_; simp only [List.toList_toArray]))
      have qq : (w4.setCells D 0 (nc R)).rangeAt D 0 (nc R) := World.rangeAt_setCells_same _ _ _ _ (by rw [nc_length HOK.out]; exact there_of_row' ((B4.out.block _ (by have := SU.out; omega)).trans RZ.out) 0 65 (by omega))
      have hbl : Below w.heap.size w (w4.setCells D 0 (nc R)) := below_setCells (by rw [HD.out]; exact Nat.le_refl _) _ _ (BU.out.trans (B4.out.mono BU.out.size))
      refine bodyPost_ret (v := .agg (nc R).toArray) ?_ rfl ⟨rfl, hbl⟩
      simp only [results, Tryd.results21]
      simp [Act.put, asAddr, run_loadVar_mid _ D 0 35 (nc R) _ qq Tryd.underlying35 rfl (size_nc HOK.out)]
end Go.Proofs.YtkeobajlikhghabDoor
